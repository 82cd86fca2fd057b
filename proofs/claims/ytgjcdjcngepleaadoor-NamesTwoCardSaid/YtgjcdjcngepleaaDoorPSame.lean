/- SameTexts, great. -/
import Derived.Test.YtgjcdjcngepleaaDoorTxt
namespace Go.Proofs.YtgjcdjcngepleaaDoor
set_option linter.unusedVariables false
open Go.RowKit

set_option maxRecDepth 100000 in
set_option maxHeartbeats 4000000 in
theorem tsame_any (l m : List ByteArray) (v u : Value) (w : World) (hv : StrsIn v l w) (hu : StrsIn u m w) :
    Calls Tryd.prog 13 #[v, u] w fun e w' => e = .returned (.bool (decide (l = m))) ∧ Below w.heap.size w w' := by
  obtain ⟨ad, cap, rfl, c1, c2, c3, -⟩ := strsIn_cells hv
  obtain ⟨ad2, cap2, rfl, c1', c2', c3', -⟩ := strsIn_cells hu
  have mixed : Tryd.prog.follows .mixedOrders = true := by kernel_rfl
  have H3 := Lib.hid c3
  have H4 := Lib.hid c3'
  clear c3 c3' hv hu
  by_cases hl : l.length = m.length
  · have dl : ((l.length : Int) != (m.length : Int)) = false := by simp [hl]
    have HE : Hid ((∀ i, i < l.length → sat l i = sat m i) → decide (l = m) = true) := Lib.hid fun h => decide_eq_true (List.ext_getElem hl fun i h1 h2 => by
      have := h i h1
      rwa [sat_eq h1, sat_eq h2] at this)
    have HN : Hid (∀ i, sat l i ≠ sat m i → decide (l = m) = false) := Lib.hid fun i h => decide_eq_false fun e => h (by rw [e])
    have HL := Lib.hid hl
    clear hl
    go_enter Tryd.func13, Tryd.ntmps13
    go_wp2
    go_loopw [5] (fun p wr => ∃ k : Nat, p = .int .i64 k ∧ k ≤ l.length ∧ Hid (∀ i, i < k → sat l i = sat m i) ∧ Below w.heap.size w wr) (fun p _ => l.length - (intOf p).toNat)
    case atStart => exact ⟨0, rfl, Nat.zero_le _, Lib.hid (fun i h => by omega), Below.refl _ _⟩
    case round =>
      obtain ⟨k, rfl, hk, HK, hb⟩ := hrel
      by_cases hlt : k < l.length
      · have hltm : k < m.length := by have := HL.out; omega
        obtain ⟨g, o, rfl, hg, hc⟩ := H3.out (by omega)
        obtain ⟨g2, o2, rfl, hg2, hc2⟩ := H4.out (by omega)
        have k0 := fun p : BelowP wr => hc p.to (hb.trans (p.h.mono hb.size)) k hlt
        have n0 := fun p : BelowP wr => hc2 p.to (hb.trans (p.h.mono hb.size)) k hltm
        by_cases he : sat l k = sat m k
        · have HKN : Hid (∀ i, i < k + 1 → sat l i = sat m i) := Lib.hid fun i hi => by
            by_cases e : i = k
            · subst e; exact he
            · exact HK.out i (by omega)
          have RE : ((sat l k).toList == (sat m k).toList) = true := by rw [he]; simp
          clear HK he hc hc2 HE HN
          generalize sat l k = yl at *
          generalize sat m k = ym at *
          go_wp2
          refine wp_region_quiet_below mixed (by kernel_rfl) ?_
          repeat (go_big_quiet_step (fail))
          refine wpQuiet_nil ?_
          intro w0q hw'
          obtain ⟨⟨wq, bq⟩, hw''⟩ := hw'
          have hw2 : wq = w0q := hw''.symm
          clear hw''
          subst hw2
          have hb2 := bnext hb bq
          clear k0 n0 RE
          go_wp2
          exact ⟨⟨k + 1, by go_num, by omega, HKN, hb2⟩, by simp [intOf]; omega⟩
        · have HR := Lib.hid (HN.out k he)
          have RE : ((sat l k).toList == (sat m k).toList) = false := by rw [str_beq]; exact decide_eq_false he
          clear HK he hc hc2 HE HN
          generalize sat l k = yl at *
          generalize sat m k = ym at *
          go_wp2
          refine wp_region_quiet_below mixed (by kernel_rfl) ?_
          repeat (go_big_quiet_step (fail))
          refine wpQuiet_nil ?_
          intro w0q hw'
          obtain ⟨⟨wq, bq⟩, hw''⟩ := hw'
          have hw2 : wq = w0q := hw''.symm
          clear hw''
          subst hw2
          have hb2 := bnext hb bq
          clear k0 n0 RE
          go_wp2
          go_ret
          exact ⟨ret_bool (by rw [HR.out]), hb2⟩
      · obtain rfl : k = l.length := by omega
        have HR := Lib.hid (HE.out HK.out)
        go_wp2
        go_ret
        exact ⟨ret_bool (by rw [HR.out]), hb⟩
  · have dl : ((l.length : Int) != (m.length : Int)) = true := by simp; omega
    have HR : Hid (decide (l = m) = false) := Lib.hid (decide_eq_false fun e => hl (by rw [e]))
    rw [HR.out]
    clear hl
    go_enter Tryd.func13, Tryd.ntmps13
    go_wp2
    go_ret
    exact ⟨rfl, Below.refl _ _⟩
/-- how much the law goes through: each text one, and its bytes, but no more than a million -/
def bulkT : List ByteArray → Nat
  | [] => 0
  | d :: l => 1 + min d.size 1000000 + bulkT l
theorem bulkT_append (a b : List ByteArray) : bulkT (a ++ b) = bulkT a + bulkT b := by
  induction a with
  | nil => simp [bulkT]
  | cons d a ih => simp [bulkT, ih]; omega
theorem bulkT_take {l : List ByteArray} {k : Nat} (h : k < l.length) : bulkT (l.take (k + 1)) = bulkT (l.take k) + 1 + min (sat l k).size 1000000 := by
  rw [List.take_succ_eq_append_getElem h, bulkT_append, sat_eq h]; simp [bulkT]; omega
theorem bulkT_le (l : List ByteArray) (k : Nat) : bulkT (l.take k) ≤ bulkT l := by
  have := bulkT_append (l.take k) (l.drop k)
  rw [List.take_append_drop] at this
  omega
def greatT (l : List ByteArray) : Bool := decide (5000 < bulkT l) || decide (200 < l.length)
theorem bulkT_fit : ∀ (l : List ByteArray), bulkT l ≤ 5000 → (∀ d ∈ l, d.size ≤ 5000) ∧ (l.map fun s => s.size + 1).sum ≤ 5000
  | [], _ => ⟨fun d hd => (by cases hd), by simp⟩
  | d :: l, h => by
    have hb : bulkT (d :: l) = 1 + min d.size 1000000 + bulkT l := rfl
    have ih : bulkT l ≤ 5000 - (1 + min d.size 1000000) := by omega
    obtain ⟨h1, -⟩ := bulkT_fit l (by omega)
    refine ⟨fun x hx => ?_, ?_⟩
    · rcases List.mem_cons.1 hx with rfl | hx
      · omega
      · exact h1 x hx
    · have hs : ∀ m : List ByteArray, bulkT m ≤ 5000 → (m.map fun s => s.size + 1).sum = bulkT m := by
        intro m
        induction m with
        | nil => intro _; rfl
        | cons y m ihm =>
          intro hm
          have e : bulkT (y :: m) = 1 + min y.size 1000000 + bulkT m := rfl
          rw [List.map_cons, List.sum_cons, ihm (by omega)]; omega
      rw [hs _ h]; exact h
theorem great_noT {l : List ByteArray} (h : greatT l = false) : (∀ d ∈ l, d.size ≤ 5000) ∧ l.length ≤ 200 ∧ (l.map fun s => s.size + 1).sum ≤ 5000 := by
  unfold greatT at h
  rw [Bool.or_eq_false_iff, decide_eq_false_iff_not, decide_eq_false_iff_not] at h
  obtain ⟨h1, h2⟩ := bulkT_fit l (by omega)
  exact ⟨h1, by omega, h2⟩
set_option maxHeartbeats 4000000 in
theorem tgreat_any (l : List ByteArray) (hf : ∀ d ∈ l, d.size ≤ maxLen) (v : Value) (w : World) (hv : StrsIn v l w) :
    Calls Tryd.prog 15 #[v] w fun e w' => e = .returned (.bool (greatT l)) ∧ Below w.heap.size w w' := by
  obtain ⟨ad, cap, rfl, h1, h2, h3, -⟩ := strsIn_cells hv
  have HS := Lib.hid fun k => @bulkT_take l k
  have HL := Lib.hid (bulkT_le l)
  have HZ : Hid (∀ k, k < l.length → (sat l k).size ≤ 9223372036854775807) := Lib.hid fun k hk => hf _ (sat_mem hk)
  have HE : Hid (bulkT (l.take l.length) ≤ 5000 → greatT l = decide (200 < l.length)) := Lib.hid fun h => by
    rw [List.take_length] at h
    unfold greatT; rw [decide_eq_false (by omega : ¬ 5000 < bulkT l), Bool.false_or]
  have HT : Hid (∀ k, 5000 < bulkT (l.take k) → greatT l = true) := Lib.hid fun k h => by
    have := bulkT_le l k
    unfold greatT; rw [decide_eq_true (by omega : 5000 < bulkT l), Bool.true_or]
  have H0 : Hid (bulkT (l.take 0) = 0) := Lib.hid rfl
  generalize greatT l = R at *
  obtain ⟨U, hU⟩ : ∃ U : Nat → Nat, U = fun k => bulkT (l.take k) := ⟨_, rfl⟩
  have hU2 : ∀ k, bulkT (l.take k) = U k := fun k => by rw [hU]
  simp only [hU2] at HS HE HT H0 HL
  clear hU hU2 hv hf HL
  obtain ⟨D, hD⟩ : ∃ D : Nat → ByteArray, D = sat l := ⟨_, rfl⟩
  rw [← hD] at HS h3 HZ
  generalize l.length = n at *
  clear hD
  go_enter Tryd.func15, Tryd.ntmps15
  go_wp2
  go_loopw [3, 4] (fun p q wr => ∃ k : Nat, q = .int .i64 k ∧ p = .int .i64 (U k : Int) ∧ k ≤ n ∧ U k ≤ 5000 ∧ Below w.heap.size w wr) (fun _ q _ => n - (intOf q).toNat)
  case atStart => exact ⟨0, rfl, by rw [H0.out]; rfl, Nat.zero_le _, by rw [H0.out]; omega, Below.refl _ _⟩
  case round =>
    obtain ⟨k, rfl, rfl, hk, hu, hb⟩ := hrel
    by_cases hlt : k < n
    · obtain ⟨g, o, rfl, hg, hc⟩ := h3 (by omega)
      have c1 := hc wr hb k hlt
      have hs := HS.out k hlt
      have hz := HZ.out k hlt
      have HTk := HT.out (k + 1)
      generalize D k = nm at *
      have hmin : (if (1000000 : Int) < (nm.size : Int) then (1000000 : Int) else (nm.size : Int)) = ((min nm.size 1000000 : Nat) : Int) := by split <;> omega
      generalize hx : U (k + 1) = x at *
      have hz2 : (U k : Int) + 1 + ((min nm.size 1000000 : Nat) : Int) = (x : Int) := by omega
      have hz3 : ((min nm.size 1000000 : Nat) : Int) ≤ 1000000 := by omega
      have hz4 : (0 : Int) ≤ ((min nm.size 1000000 : Nat) : Int) := by omega
      generalize ((min nm.size 1000000 : Nat) : Int) = mn at *
      by_cases hbig : 5000 < x
      · have HR := Lib.hid (HTk hbig)
        have t1 : decide ((5000 : Int) < (x : Int)) = true := decide_eq_true (by omega)
        clear h3 hc hs HTk HE HT hx
        go_wp2
        go_ret
        exact ⟨by rw [HR.out]; rfl, hb⟩
      · have t1 : decide ((5000 : Int) < (x : Int)) = false := decide_eq_false (by omega)
        have HX := Lib.hid hx
        clear h3 hc hs HTk HE HT hx
        go_wp2
        exact ⟨⟨k + 1, by go_num, by rw [HX.out, ← hz2, ← hmin], by omega, by rw [HX.out]; omega, hb⟩, by simp [intOf]; omega⟩
    · obtain rfl : k = n := by omega
      have HR := Lib.hid (HE.out hu)
      go_wp2
      go_ret
      exact ⟨ret_bool (by rw [HR.out]; first | rfl | (rw [decide_eq_decide]; omega)), hb⟩
end Go.Proofs.YtgjcdjcngepleaaDoor
