import Derived.Test.YtanghmogeiiooaaGreatDoorPa12
import Derived.Test.YtanghmogeiiooaaGreatDoorPa06
set_option linter.unusedVariables false
set_option linter.unusedSimpArgs false
set_option linter.constructorNameAsVariable false
/- rising. -/
namespace Go.Proofs.YtanghmogeiiooaaGreatDoor
set_option linter.unusedVariables false
open Go.RowKit

/-- is x a block of the device that is not the log's? -/
def hmB (b la l : Int) (x : Int) : Bool := decide (0 ≤ x ∧ x < b ∧ ¬ (la ≤ x ∧ x < la + l))
def riseTo (hm : Int → Bool) (L : List Int) (k : Nat) : Prop := ∀ j, j < k → hm (hat L j) = true ∧ (0 < j → hat L (j - 1) < hat L j)
instance (hm : Int → Bool) (L : List Int) (k : Nat) : Decidable (riseTo hm L k) := by unfold riseTo; infer_instance
theorem riseTo_succ {hm : Int → Bool} {L : List Int} {k : Nat} : riseTo hm L (k + 1) ↔ riseTo hm L k ∧ hm (hat L k) = true ∧ (0 < k → hat L (k - 1) < hat L k) := by
  constructor
  · intro h; exact ⟨fun j hj => h j (by omega), h k (by omega)⟩
  · rintro ⟨h1, h2⟩ j hj
    by_cases e : j = k
    · subst e; exact h2
    · exact h1 j (by omega)
theorem riseTo_mono {hm : Int → Bool} {L : List Int} {i k : Nat} (h : riseTo hm L k) (hi : i ≤ k) : riseTo hm L i := fun j hj => h j (by omega)
theorem riseTo_no {hm : Int → Bool} {L : List Int} {k : Nat} (hk : k < L.length) (h : ¬ riseTo hm L (k + 1)) : decide (riseTo hm L L.length) = false := decide_eq_false fun q => h (riseTo_mono q hk)
/-- of homes that rise anyway it is asked whether all are homes -/
theorem riseTo_up {hm : Int → Bool} {L : List Int} (h : upTo L L.length) : riseTo hm L L.length ↔ L.all hm = true := by
  rw [List.all_eq_true]
  constructor
  · intro q x hx
    obtain ⟨j, hj, rfl⟩ := List.getElem_of_mem hx
    have := (q j hj).1
    rwa [hat_eq hj] at this
  · intro q j hj
    refine ⟨by rw [hat_eq hj]; exact q _ (List.getElem_mem hj), fun h0 => ?_⟩
    have := (h j hj).1
    unfold prevH at this
    rwa [if_neg (by omega)] at this
set_option maxRecDepth 100000 in
set_option maxHeartbeats 4000000 in
theorem rising_any (d : Option Addr) (b l i la ma ml ta tl da : Int) (hl : 128 ≤ l ∧ l ≤ 512) (hla : 0 ≤ la ∧ la ≤ 4096) (L : List Int) (v : Value) (w : World) (hv : IntsIn v L w) :
    Calls Tryz.prog 72 #[ringV d b l i la ma ml ta tl da, v] w fun e w' => e = .returned (.bool (decide (riseTo (hmB b la l) L L.length))) ∧ Below w.heap.size w w' := by
  obtain ⟨ad, cap, rfl, h1, h2, h3, -⟩ := hv.shape
  have H3 := Lib.hid (row_cells h3)
  have HM := Lib.hid (fun x w => jhome_any d b l i la ma ml ta tl da hl hla x w)
  have hb0 := balloc1 w (.cells (ringC d b l i la ma ml ta tl da) 87)
  have R0 := RingAt.new d b l i la ma ml ta tl da w
  have HNO := Lib.hid (fun k hk h => riseTo_no (hm := hmB b la l) (L := L) (k := k) hk h)
  clear h3 hv
  go_enter Tryz.func72, Tryz.ntmps72
  go_wp2
  go_loopw [9] (fun q wr => ∃ k : Nat, q = .int .i64 k ∧ k ≤ L.length ∧ Hid (riseTo (hmB b la l) L k) ∧ RingAt w.heap.size d b l i la ma ml ta tl da wr ∧ Below w.heap.size w wr) (fun q _ => L.length - (intOf q).toNat)
  case atStart => exact ⟨0, rfl, Nat.zero_le _, Lib.hid (fun j hj => by omega), R0, hb0⟩
  case round =>
    clear R0 hb0
    obtain ⟨k, rfl, hk, HU, hR, hB⟩ := hrel
    by_cases hlt : k < L.length
    · obtain ⟨g, o, rfl, hg, hc⟩ := H3.out (by omega)
      have q1 := (hB.cell (p := ⟨g, o + k, none⟩) hg).trans (hc k hlt)
      obtain ⟨c0, c1, c2, c3, c4, c5, c6, c7, c8, c9⟩ := hR.cells
      have HP : Hid (0 < k → wr.cell? ⟨g, o + (k - 1), none⟩ = some (.int .i64 L[k - 1])) := Lib.hid fun h0 => (hB.cell (p := ⟨g, o + (k - 1), none⟩) hg).trans (hc (k - 1) (by omega))
      have HR := Lib.hid hR
      clear hc hR H3
      have hhm : hmB b la l (hat L k) = decide (0 ≤ L[k] ∧ L[k] < b ∧ ¬ (la ≤ L[k] ∧ L[k] < la + l)) := by rw [hat_eq hlt]; rfl
      have HHM := Lib.hid hhm
      have HMK := HM.out L[k]
      rw [← hhm] at HMK
      clear hhm
      obtain ⟨β, hβ⟩ : ∃ β, hmB b la l (hat L k) = β := ⟨_, rfl⟩
      rw [hβ] at HMK
      have HMK := Lib.hid HMK
      have HB := Lib.hid hβ
      clear hβ
      go_wp2_with fail
      refine (HMK.out _).mono ?_; rintro e w2 ⟨rfl, b2⟩
      have HR2 := HR.out.kept1 b2
      have hB2 := bnext hB b2
      have q2 := (b2.cell (p := ⟨g, o + k, none⟩) (by have := hB.size; exact Nat.lt_of_lt_of_le hg this)).trans q1
      have HP2 : Hid (0 < k → w2.cell? ⟨g, o + (k - 1), none⟩ = some (.int .i64 L[k - 1])) := Lib.hid fun h0 => (b2.cell (p := ⟨g, o + (k - 1), none⟩) (by have := hB.size; exact Nat.lt_of_lt_of_le hg this)).trans (HP.out h0)
      clear HR hB b2 q1 HP c0 c1 c2 c3 c4 c5 c6 c7 c8 c9
      cases β with
      | false =>
        have HE := Lib.hid (HNO.out k hlt (fun q => by have := (riseTo_succ.1 q).2.1; rw [HB.out] at this; cases this))
        go_wp2
        go_ret
        exact ⟨ret_bool HE.out.symm, hB2⟩
      | true =>
        by_cases h0 : k = 0
        · subst h0
          have HN : Hid (riseTo (hmB b la l) L (0 + 1)) := Lib.hid (riseTo_succ.2 ⟨HU.out, HB.out, fun h => by omega⟩)
          go_wp2
          exact ⟨⟨1, rfl, by omega, HN, HR2, hB2⟩, by simp [intOf]; omega⟩
        · have p1 := HP2.out (by omega)
          have t0 : decide ((0 : Int) < (k : Int)) = true := decide_eq_true (by omega)
          have hk1 : (k : Int) - 1 = ((k - 1 : Nat) : Int) := by omega
          by_cases hle : L[k] ≤ L[k - 1]
          · have t1 : decide (L[k] ≤ L[k - 1]) = true := decide_eq_true hle
            have HE := Lib.hid (HNO.out k hlt (fun q => by
              have := (riseTo_succ.1 q).2.2 (by omega)
              rw [hat_eq hlt, hat_eq (show k - 1 < L.length by omega)] at this; omega))
            go_wp2
            go_ret
            exact ⟨ret_bool HE.out.symm, hB2⟩
          · have t1 : decide (L[k] ≤ L[k - 1]) = false := decide_eq_false hle
            have HN : Hid (riseTo (hmB b la l) L (k + 1)) := Lib.hid (riseTo_succ.2 ⟨HU.out, HB.out, fun h => by rw [hat_eq hlt, hat_eq (show k - 1 < L.length by omega)]; omega⟩)
            go_wp2
            exact ⟨⟨k + 1, by go_num, by omega, HN, HR2, hB2⟩, by simp [intOf]; omega⟩
    · obtain rfl : k = L.length := by omega
      have HE : Hid (decide (riseTo (hmB b la l) L L.length) = true) := Lib.hid (decide_eq_true HU.out)
      clear H3
      go_wp2
      go_ret
      exact ⟨ret_bool HE.out.symm, hB⟩
end Go.Proofs.YtanghmogeiiooaaGreatDoor

/- Lists of numbers and of marks that a call makes; readHomes, readMasked. -/
namespace Go.Proofs.YtanghmogeiiooaaGreatDoor
set_option linter.unusedVariables false
open Go.RowKit

theorem kint_info : (Tryz.prog.info? 3).map (fun i => (i.zero, i.size, i.bytes)) = some (some (.int .i64 0), 1, 8) := by kernel_rfl
theorem kbool_info : (Tryz.prog.info? 4).map (fun i => (i.zero, i.size, i.bytes)) = some (some (.bool false), 1, 1) := by kernel_rfl
abbrev IntsOwn (B : Nat) (v : Value) (L : List Int) (w : World) : Prop := w.ownsRow B 3 1 v L.length (L.map (Value.int .i64))
abbrev BoolsOwn (B : Nat) (v : Value) (L : List Bool) (w : World) : Prop := w.ownsRow B 4 1 v L.length (L.map Value.bool)
theorem own_in {α : Type} {f : α → Value} {B : Nat} {v : Value} {e : TypeId} {L : List α} {w : World} (h : w.ownsRow B e 1 v L.length (L.map f)) : RowIn 1 v L.length (L.map f) w := by
  rcases h.2 with ⟨rfl, h0⟩ | ⟨g, cap, cur, rfl, hbg, hg, hnc, hcm, hcs, htake⟩
  · have : L = [] := List.length_eq_zero_iff.1 h0
    subst this
    exact RowIn.nil 1 w
  · refine ⟨by simp, some ⟨g, 0, none⟩, cap, rfl, hnc, hcm, fun _ => ⟨g, 0, rfl, lt_of_block hg, fun k u hk => ?_⟩, fun h => by cases h⟩
    have hl := (List.getElem?_eq_some_iff.1 hk).1
    rw [Nat.zero_add, h.cellAt k (by rw [List.length_map] at hl; omega)]; exact hk
theorem knew_one (w : World) (u : Value) (t : TypeId) : ∀ j v, [u][j]? = some v → (w.alloc (.cells #[u] t)).cell? ((⟨w.heap.size, 0, none⟩ : Addr).add j) = some v := fun j v hj => by
  rw [add_at, Nat.zero_add, World.cell?_alloc_mark]
  simpa using hj
theorem wpList_appI {ops : Array Oper} {rest : List Oper} {o : Oper} {a : Act} {Q : Exit → Act → World → Prop} {w : World} (hgd : o.guard = none) (s x : Operand)
    (ho : o.op = .call { callee := .builtin .append, args := #[s, x], argTypes := #[56, 56] })
    (base : Nat) (v : Value) (L : List Int) (k : Int) (hs : a.eval s = v) (hown : IntsOwn base v L w) (W : World) (hW : w = W.alloc (.cells #[.int .i64 k] 3)) (hx : a.eval x = .slice (some ⟨W.heap.size, 0, none⟩) 1 1)
    (hlen : L.length ≤ 4000000) (hbase : base ≤ w.heap.size)
    (h : ∀ v' w', IntsOwn base v' (L ++ [k]) w' → Below base w w' → wpList Tryz.prog ops Q rest (a.put o.dst v') w') : wpList Tryz.prog ops Q (o :: rest) a w := by
  obtain ⟨i0, hi, hz0, hz1, hz2⟩ := info_parts kint_info
  subst hW
  refine wpList_append_own (w := W.alloc (.cells #[.int .i64 k] 3)) hgd s x 56 ho base 3 i0 (.int .i64 0) 1 8 Tryz.underlying56 hi hz0 hz1 hz2 rfl (by decide) v _ _ hs hown ⟨W.heap.size, 0, none⟩ 1 1 [.int .i64 k] hx rfl (knew_one W _ _) (fun u hu => by simp at hu; subst hu; rfl) (by unfold maxLen; omega) (by omega) hbase ?_
  intro v' w' h1 h2 _
  refine h v' w' ?_ (below_of_row hown h2 hbase)
  show w'.ownsRow _ _ _ _ (L ++ [k]).length ((L ++ [k]).map _)
  rw [List.length_append, List.map_append]; exact h1
theorem wpList_appB {ops : Array Oper} {rest : List Oper} {o : Oper} {a : Act} {Q : Exit → Act → World → Prop} {w : World} (hgd : o.guard = none) (s x : Operand)
    (ho : o.op = .call { callee := .builtin .append, args := #[s, x], argTypes := #[25, 25] })
    (base : Nat) (v : Value) (L : List Bool) (k : Bool) (hs : a.eval s = v) (hown : BoolsOwn base v L w) (W : World) (hW : w = W.alloc (.cells #[.bool k] 4)) (hx : a.eval x = .slice (some ⟨W.heap.size, 0, none⟩) 1 1)
    (hlen : L.length ≤ 4000000) (hbase : base ≤ w.heap.size)
    (h : ∀ v' w', BoolsOwn base v' (L ++ [k]) w' → Below base w w' → wpList Tryz.prog ops Q rest (a.put o.dst v') w') : wpList Tryz.prog ops Q (o :: rest) a w := by
  obtain ⟨i0, hi, hz0, hz1, hz2⟩ := info_parts kbool_info
  subst hW
  refine wpList_append_own (w := W.alloc (.cells #[.bool k] 4)) hgd s x 25 ho base 4 i0 (.bool false) 1 1 Tryz.underlying25 hi hz0 hz1 hz2 rfl (by decide) v _ _ hs hown ⟨W.heap.size, 0, none⟩ 1 1 [.bool k] hx rfl (knew_one W _ _) (fun u hu => by simp at hu; subst hu; rfl) (by unfold maxLen; omega) (by omega) hbase ?_
  intro v' w' h1 h2 _
  refine h v' w' ?_ (below_of_row hown h2 hbase)
  show w'.ownsRow _ _ _ _ (L ++ [k]).length ((L ++ [k]).map _)
  rw [List.length_append, List.map_append]; exact h1

theorem field_ok {s : ByteArray} {a z : Nat} (hz : z = 1 ∨ z = 2 ∨ z = 4 ∨ z = 8) (h : a + z ≤ s.size) : fieldOk s.size a z = true := by unfold fieldOk; simp; omega
theorem field_no {s : ByteArray} {a z : Nat} (h : ¬ a + z ≤ s.size) : fieldOk s.size a z = false := by unfold fieldOk; simp; omega
theorem geti_yes (s : ByteArray) (hs : s.size ≤ maxLen) (a z : Nat) (hz : z = 1 ∨ z = 2) (h : a + z ≤ s.size) (w : World) :
    Calls Tryz.prog 121 #[.string s, .int .i64 (a : Int), .int .i64 (z : Int)] w fun e w' => e = .returned (.tuple #[.int .i64 (leN (fieldAt s a z) : Int), .bool true]) ∧ w = w' := by
  have hok := field_ok (z := z) (by omega) h
  have hv : getV s a z = leN (fieldAt s a z) := getV_yes hok
  have hlt : leN (fieldAt s a z) < 9223372036854775808 := by
    have h2 := leN_lt (fieldAt s a z)
    rw [fieldAt_length s a z h] at h2
    have h3 : (256 : Nat) ^ z ≤ 256 ^ 2 := Nat.pow_le_pow_right (by decide) (by omega)
    omega
  have e1 : intOk s a z = true := by unfold intOk; rw [hok, hv, decide_eq_true hlt]; rfl
  have e2 : intV s a z = leN (fieldAt s a z) := by unfold intV; rw [e1, if_pos rfl, hv]
  have := getInt_any s hs a z w
  rwa [e1, e2] at this
theorem geti_no (s : ByteArray) (hs : s.size ≤ maxLen) (a z : Nat) (h : ¬ a + z ≤ s.size) (w : World) :
    Calls Tryz.prog 121 #[.string s, .int .i64 (a : Int), .int .i64 (z : Int)] w fun e w' => e = .returned (.tuple #[.int .i64 0, .bool false]) ∧ w = w' := by
  have e1 : intOk s a z = false := by unfold intOk; rw [field_no h]; rfl
  have e2 : intV s a z = 0 := by unfold intV; rw [e1]; rfl
  have := getInt_any s hs a z w
  rwa [e1, e2] at this
theorem homeAt_any (i : Nat) (h : i ≤ 100000) (w : World) :
    Calls Tryz.prog 140 #[.int .i64 (i : Int)] w fun e w' => e = .returned (.int .i64 (14 + 2 * (i : Int))) ∧ w = w' := by
  go_enter Tryz.func140, Tryz.ntmps140
  go_wp2
  go_ret
  exact ⟨ret_int (by omega), rfl⟩
theorem homesOf_succ (s : ByteArray) (k : Nat) : homesOf s (k + 1) = homesOf s k ++ [(homeOf s k : Int)] := by unfold homesOf; rw [List.range_succ, List.map_append]; rfl
theorem homesOf_length (s : ByteArray) (k : Nat) : (homesOf s k).length = k := by unfold homesOf; simp
theorem marksOf_succ (s : ByteArray) (n k : Nat) : marksOf s n (k + 1) = marksOf s n k ++ [decide (markOf s n k ≠ 0)] := by unfold marksOf; rw [List.range_succ, List.map_append]; rfl
theorem marksOf_length (s : ByteArray) (n k : Nat) : (marksOf s n k).length = k := by unfold marksOf; simp
theorem count_lt {s : ByteArray} (h : 14 ≤ s.size) : countOf s < 256 := by
  have h2 := leN_lt (fieldAt s 13 1)
  rw [fieldAt_length s 13 1 h] at h2
  exact h2

set_option maxHeartbeats 4000000 in
theorem homes_yes (s : ByteArray) (hs : s.size ≤ maxLen) (h14 : 14 ≤ s.size) (h : 14 + 2 * countOf s ≤ s.size) (w : World) :
    Calls Tryz.prog 123 #[.string s] w fun e w' => ∃ v, e = .returned (.tuple #[v, .bool true]) ∧ IntsOwn w.heap.size v (homesOf s (countOf s)) w' ∧ Below w.heap.size w w' := by
  have hc := count_lt h14
  have GC : Hid (∀ w, Calls Tryz.prog 121 #[.string s, .int .i64 13, .int .i64 1] w fun e w' => e = .returned (.tuple #[.int .i64 (countOf s : Int), .bool true]) ∧ w = w') := Lib.hid fun w => geti_yes s hs 13 1 (by omega) h14 w
  have GH : Hid (∀ k : Nat, k < countOf s → ∀ w, Calls Tryz.prog 121 #[.string s, .int .i64 (14 + 2 * (k : Int)), .int .i64 2] w fun e w' => e = .returned (.tuple #[.int .i64 (homeOf s k : Int), .bool true]) ∧ w = w') := Lib.hid fun k hk w => geti_yes s hs (14 + 2 * k) 2 (by omega) (by omega) w
  have HA := Lib.hid (fun (k : Nat) (hk : k < 300) w => homeAt_any k (by omega) w)
  generalize countOf s = n at *
  clear h h14
  go_enter Tryz.func123, Tryz.ntmps123
  go_wp2_with fail
  refine (GC.out _).mono ?_; rintro e w1 ⟨rfl, rfl⟩
  go_wp2
  go_loopw [5, 6, 7] (fun o v q wr => ∃ k : Nat, o = .bool true ∧ q = .int .i64 k ∧ k ≤ n ∧ IntsOwn w.heap.size v (homesOf s k) wr ∧ Below w.heap.size w wr) (fun _ _ q _ => n - (intOf q).toNat)
  case atStart => exact ⟨0, rfl, rfl, Nat.zero_le _, World.ownsRow_nil _ _ _ _, Below.refl _ _⟩
  case round =>
    obtain ⟨k, rfl, rfl, hk, hown, hb⟩ := hrel
    by_cases hlt : k < n
    · have hlen := homesOf_length s k
      have hs2 := hb.size
      have HS := Lib.hid (homesOf_succ s k)
      have HW := Lib.hid hown
      go_wp2_with fail
      refine (HA.out k (by omega) _).mono ?_; rintro e w2 ⟨rfl, rfl⟩
      go_wp2_with fail
      refine (GH.out k hlt _).mono ?_; rintro e w2 ⟨rfl, rfl⟩
      go_wp2_with (at_builtin; refine wpList_appI rfl _ _ rfl w.heap.size _ _ (homeOf s k : Int) rfl (HW.out.alloc _) wr rfl rfl (by omega) (by rw [size_alloc]; omega) ?_)
      intro v' w2 h2 b2
      have hb3 := (hb.alloc hs2 (.cells #[.int .i64 (homeOf s k : Int)] 3)).trans b2
      rw [← HS.out] at h2
      have H2 := Lib.hid h2
      clear hown hb b2 h2
      go_wp2
      exact ⟨⟨k + 1, rfl, by go_num, by omega, H2.out, hb3⟩, by simp [intOf]; omega⟩
    · obtain rfl : k = n := by omega
      have HW := Lib.hid hown
      clear hown
      go_wp2
      go_ret2
      exact ⟨_, rfl, HW.out, hb⟩
set_option maxHeartbeats 4000000 in
theorem homes_no (s : ByteArray) (hs : s.size ≤ maxLen) (h : ¬ (14 ≤ s.size ∧ 14 + 2 * countOf s ≤ s.size)) (w : World) :
    Calls Tryz.prog 123 #[.string s] w fun e w' => ∃ ad n cap, e = .returned (.tuple #[.slice ad n cap, .bool false]) ∧ Below w.heap.size w w' := by
  by_cases h14 : 14 ≤ s.size
  · have hc := count_lt h14
    have GC : Hid (∀ w, Calls Tryz.prog 121 #[.string s, .int .i64 13, .int .i64 1] w fun e w' => e = .returned (.tuple #[.int .i64 (countOf s : Int), .bool true]) ∧ w = w') := Lib.hid fun w => geti_yes s hs 13 1 (by omega) h14 w
    have GH : Hid (∀ k : Nat, 14 + 2 * k + 2 ≤ s.size → ∀ w, Calls Tryz.prog 121 #[.string s, .int .i64 (14 + 2 * (k : Int)), .int .i64 2] w fun e w' => e = .returned (.tuple #[.int .i64 (homeOf s k : Int), .bool true]) ∧ w = w') := Lib.hid fun k hk w => geti_yes s hs (14 + 2 * k) 2 (by omega) hk w
    have GN : Hid (∀ k : Nat, ¬ 14 + 2 * k + 2 ≤ s.size → ∀ w, Calls Tryz.prog 121 #[.string s, .int .i64 (14 + 2 * (k : Int)), .int .i64 2] w fun e w' => e = .returned (.tuple #[.int .i64 0, .bool false]) ∧ w = w') := Lib.hid fun k hk w => geti_no s hs (14 + 2 * k) 2 hk w
    have HA := Lib.hid (fun (k : Nat) (hk : k < 300) w => homeAt_any k (by omega) w)
    have hfar : s.size < 14 + 2 * countOf s := by omega
    generalize countOf s = n at *
    clear h
    go_enter Tryz.func123, Tryz.ntmps123
    go_wp2_with fail
    refine (GC.out _).mono ?_; rintro e w1 ⟨rfl, rfl⟩
    go_wp2
    go_loopw [5, 6, 7] (fun o v q wr => ∃ (k : Nat) (b : Bool) (L : List Int), o = .bool b ∧ q = .int .i64 k ∧ k ≤ n ∧ L.length = k ∧ Hid (b = true → 14 + 2 * k ≤ s.size) ∧ IntsOwn w.heap.size v L wr ∧ Below w.heap.size w wr) (fun _ _ q _ => n - (intOf q).toNat)
    case atStart => exact ⟨0, true, [], rfl, rfl, Nat.zero_le _, rfl, Lib.hid (fun _ => by omega), World.ownsRow_nil _ _ _ _, Below.refl _ _⟩
    case round =>
      obtain ⟨k, b, L, rfl, rfl, hk, hlen, HB, hown, hb⟩ := hrel
      obtain ⟨ad, cap, rfl, -⟩ := shape_of hown
      cases b with
      | false =>
        clear hown
        go_wp2
        go_ret2
        exact ⟨_, _, _, rfl, hb⟩
      | true =>
        have hin := HB.out rfl
        have hlt : k < n := by omega
        have hs2 := hb.size
        have HW := Lib.hid hown
        have HLn := Lib.hid hlen
        clear hown hlen HB
        by_cases hfit : 14 + 2 * k + 2 ≤ s.size
        · go_wp2_with fail
          refine (HA.out k (by omega) _).mono ?_; rintro e w2 ⟨rfl, rfl⟩
          go_wp2_with fail
          refine (GH.out k hfit _).mono ?_; rintro e w2 ⟨rfl, rfl⟩
          go_wp2_with (at_builtin; refine wpList_appI rfl _ _ rfl w.heap.size _ _ (homeOf s k : Int) rfl (HW.out.alloc _) wr rfl rfl (by have := HLn.out; omega) (by rw [size_alloc]; omega) ?_)
          intro v' w2 h2 b2
          have hb3 := (hb.alloc hs2 (.cells #[.int .i64 (homeOf s k : Int)] 3)).trans b2
          have H2 := Lib.hid h2
          clear hb b2 h2
          go_wp2
          exact ⟨⟨k + 1, true, _, rfl, by go_num, by omega, by rw [List.length_append, HLn.out]; rfl, Lib.hid (fun _ => by omega), H2.out, hb3⟩, by simp [intOf]; omega⟩
        · go_wp2_with fail
          refine (HA.out k (by omega) _).mono ?_; rintro e w2 ⟨rfl, rfl⟩
          go_wp2_with fail
          refine (GN.out k hfit _).mono ?_; rintro e w2 ⟨rfl, rfl⟩
          go_wp2_with (at_builtin; refine wpList_appI rfl _ _ rfl w.heap.size _ _ 0 rfl (HW.out.alloc _) wr rfl rfl (by have := HLn.out; omega) (by rw [size_alloc]; omega) ?_)
          intro v' w2 h2 b2
          have hb3 := (hb.alloc hs2 (.cells #[.int .i64 0] 3)).trans b2
          have H2 := Lib.hid h2
          clear hb b2 h2
          go_wp2
          exact ⟨⟨k + 1, false, _, rfl, by go_num, by omega, by rw [List.length_append, HLn.out]; rfl, Lib.hid (fun h => by cases h), H2.out, hb3⟩, by simp [intOf]; omega⟩
  · have GC : Hid (∀ w, Calls Tryz.prog 121 #[.string s, .int .i64 13, .int .i64 1] w fun e w' => e = .returned (.tuple #[.int .i64 0, .bool false]) ∧ w = w') := Lib.hid fun w => geti_no s hs 13 1 (by omega) w
    clear h
    go_enter Tryz.func123, Tryz.ntmps123
    go_wp2_with fail
    refine (GC.out _).mono ?_; rintro e w1 ⟨rfl, rfl⟩
    go_wp2
    go_loop [5, 6, 7] (fun o v q => o = .bool false ∧ v = .slice none 0 0 ∧ q = .int .i64 0) (fun _ _ _ => 0)
    case atStart => exact ⟨rfl, rfl, rfl⟩
    case round =>
      obtain ⟨rfl, rfl, rfl⟩ := hrel
      go_wp2
      go_ret2
      exact ⟨⟨_, _, _, rfl⟩, Below.refl _ _⟩

set_option maxHeartbeats 4000000 in
theorem marks_yes (s : ByteArray) (hs : s.size ≤ maxLen) (n : Nat) (hn : n < 256) (h : 14 + 3 * n ≤ s.size) (w : World) :
    Calls Tryz.prog 124 #[.string s, .int .i64 (n : Int)] w fun e w' => ∃ v, e = .returned (.tuple #[v, .bool true]) ∧ BoolsOwn w.heap.size v (marksOf s n n) w' ∧ Below w.heap.size w w' := by
  have GH : Hid (∀ k : Nat, k < n → ∀ w, Calls Tryz.prog 121 #[.string s, .int .i64 (14 + 2 * (n : Int) + (k : Int)), .int .i64 1] w fun e w' => e = .returned (.tuple #[.int .i64 (markOf s n k : Int), .bool true]) ∧ w = w') := Lib.hid fun k hk w => geti_yes s hs (14 + 2 * n + k) 1 (by omega) (by omega) w
  have HA := Lib.hid (fun w => homeAt_any n (by omega) w)
  clear h
  go_enter Tryz.func124, Tryz.ntmps124
  go_wp2
  go_loopw [6, 7, 8] (fun o v q wr => ∃ k : Nat, o = .bool true ∧ q = .int .i64 k ∧ k ≤ n ∧ BoolsOwn w.heap.size v (marksOf s n k) wr ∧ Below w.heap.size w wr) (fun _ _ q _ => n - (intOf q).toNat)
  case atStart => exact ⟨0, rfl, rfl, Nat.zero_le _, World.ownsRow_nil _ _ _ _, Below.refl _ _⟩
  case round =>
    obtain ⟨k, rfl, rfl, hk, hown, hb⟩ := hrel
    by_cases hlt : k < n
    · have hlen := marksOf_length s n k
      have hs2 := hb.size
      have HS := Lib.hid (marksOf_succ s n k)
      have HW := Lib.hid hown
      go_wp2_with fail
      refine (HA.out _).mono ?_; rintro e w2 ⟨rfl, rfl⟩
      go_wp2_with fail
      refine (GH.out k hlt _).mono ?_; rintro e w2 ⟨rfl, rfl⟩
      have hd : ((markOf s n k : Int) != 0) = decide (markOf s n k ≠ 0) := by
        by_cases h0 : markOf s n k = 0
        · rw [h0]; rfl
        · rw [decide_eq_true h0, bne_iff_ne]; omega
      obtain ⟨b, hB⟩ : ∃ b, decide (markOf s n k ≠ 0) = b := ⟨_, rfl⟩
      rw [hB] at hd
      have HS2 := HS.out
      rw [hB] at HS2
      have HS2 := Lib.hid HS2
      clear hB HS
      go_wp2_with (at_builtin; refine wpList_appB rfl _ _ rfl w.heap.size _ _ b rfl (HW.out.alloc _) wr rfl rfl (by omega) (by rw [size_alloc]; omega) ?_)
      intro v' w2 h2 b2
      have hb3 := (hb.alloc hs2 (.cells #[.bool b] 4)).trans b2
      rw [← HS2.out] at h2
      have H2 := Lib.hid h2
      clear hown hb b2 h2 hd
      go_wp2
      exact ⟨⟨k + 1, rfl, by go_num, by omega, H2.out, hb3⟩, by simp [intOf]; omega⟩
    · obtain rfl : k = n := by omega
      have HW := Lib.hid hown
      clear hown
      go_wp2
      go_ret2
      exact ⟨_, rfl, HW.out, hb⟩
set_option maxHeartbeats 4000000 in
theorem marks_no (s : ByteArray) (hs : s.size ≤ maxLen) (n : Nat) (hn : n < 256) (h0 : 14 + 2 * n ≤ s.size) (h : ¬ 14 + 3 * n ≤ s.size) (w : World) :
    Calls Tryz.prog 124 #[.string s, .int .i64 (n : Int)] w fun e w' => ∃ ad n cap, e = .returned (.tuple #[.slice ad n cap, .bool false]) ∧ Below w.heap.size w w' := by
  have GH : Hid (∀ k : Nat, 14 + 2 * n + k + 1 ≤ s.size → ∀ w, Calls Tryz.prog 121 #[.string s, .int .i64 (14 + 2 * (n : Int) + (k : Int)), .int .i64 1] w fun e w' => e = .returned (.tuple #[.int .i64 (markOf s n k : Int), .bool true]) ∧ w = w') := Lib.hid fun k hk w => geti_yes s hs (14 + 2 * n + k) 1 (by omega) hk w
  have GN : Hid (∀ k : Nat, ¬ 14 + 2 * n + k + 1 ≤ s.size → ∀ w, Calls Tryz.prog 121 #[.string s, .int .i64 (14 + 2 * (n : Int) + (k : Int)), .int .i64 1] w fun e w' => e = .returned (.tuple #[.int .i64 0, .bool false]) ∧ w = w') := Lib.hid fun k hk w => geti_no s hs (14 + 2 * n + k) 1 hk w
  have HA := Lib.hid (fun w => homeAt_any n (by omega) w)
  have hfar : s.size < 14 + 3 * n := by omega
  clear h
  go_enter Tryz.func124, Tryz.ntmps124
  go_wp2
  go_loopw [6, 7, 8] (fun o v q wr => ∃ (k : Nat) (b : Bool) (L : List Bool), o = .bool b ∧ q = .int .i64 k ∧ k ≤ n ∧ L.length = k ∧ Hid (b = true → 14 + 2 * n + k ≤ s.size) ∧ BoolsOwn w.heap.size v L wr ∧ Below w.heap.size w wr) (fun _ _ q _ => n - (intOf q).toNat)
  case atStart => exact ⟨0, true, [], rfl, rfl, Nat.zero_le _, rfl, Lib.hid (fun _ => by omega), World.ownsRow_nil _ _ _ _, Below.refl _ _⟩
  case round =>
    obtain ⟨k, b, L, rfl, rfl, hk, hlen, HB, hown, hb⟩ := hrel
    obtain ⟨ad, cap, rfl, -⟩ := shape_of hown
    cases b with
    | false =>
      clear hown
      go_wp2
      go_ret2
      exact ⟨_, _, _, rfl, hb⟩
    | true =>
      have hin := HB.out rfl
      have hlt : k < n := by omega
      have hs2 := hb.size
      have HW := Lib.hid hown
      have HLn := Lib.hid hlen
      clear hown hlen HB
      by_cases hfit : 14 + 2 * n + k + 1 ≤ s.size
      · go_wp2_with fail
        refine (HA.out _).mono ?_; rintro e w2 ⟨rfl, rfl⟩
        go_wp2_with fail
        refine (GH.out k hfit _).mono ?_; rintro e w2 ⟨rfl, rfl⟩
        obtain ⟨b, hd⟩ : ∃ b, ((markOf s n k : Int) != 0) = b := ⟨_, rfl⟩
        go_wp2_with (at_builtin; refine wpList_appB rfl _ _ rfl w.heap.size _ _ b rfl (HW.out.alloc _) wr rfl rfl (by have := HLn.out; omega) (by rw [size_alloc]; omega) ?_)
        intro v' w2 h2 b2
        have hb3 := (hb.alloc hs2 (.cells #[.bool b] 4)).trans b2
        have H2 := Lib.hid h2
        clear hb b2 h2 hd
        go_wp2
        exact ⟨⟨k + 1, true, _, rfl, by go_num, by omega, by rw [List.length_append, HLn.out]; rfl, Lib.hid (fun _ => by omega), H2.out, hb3⟩, by simp [intOf]; omega⟩
      · go_wp2_with fail
        refine (HA.out _).mono ?_; rintro e w2 ⟨rfl, rfl⟩
        go_wp2_with fail
        refine (GN.out k hfit _).mono ?_; rintro e w2 ⟨rfl, rfl⟩
        go_wp2_with (at_builtin; refine wpList_appB rfl _ _ rfl w.heap.size _ _ false rfl (HW.out.alloc _) wr rfl rfl (by have := HLn.out; omega) (by rw [size_alloc]; omega) ?_)
        intro v' w2 h2 b2
        have hb3 := (hb.alloc hs2 (.cells #[.bool false] 4)).trans b2
        have H2 := Lib.hid h2
        clear hb b2 h2
        go_wp2
        exact ⟨⟨k + 1, false, _, rfl, by go_num, by omega, by rw [List.length_append, HLn.out]; rfl, Lib.hid (fun h => by cases h), H2.out, hb3⟩, by simp [intOf]; omega⟩
end Go.Proofs.YtanghmogeiiooaaGreatDoor
