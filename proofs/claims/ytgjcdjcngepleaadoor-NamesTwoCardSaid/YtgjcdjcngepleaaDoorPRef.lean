/- Check, Split, Join: the document's. -/
import Derived.Test.YtgjcdjcngepleaaDoorPMath
import Derived.Test.YtgjcdjcngepleaaDoorRName
import Derived.Test.YtgjcdjcngepleaaDoorTxt
namespace Go.Proofs.YtgjcdjcngepleaaDoor
set_option linter.unusedVariables false
open Go.RowKit

theorem dot_eq (s : ByteArray) : (s.toList == (⟨#[46]⟩ : ByteArray).toList) = decide (s = dotB) := str_beq s dotB
theorem dots_eq (s : ByteArray) : (s.toList == (⟨#[46, 46]⟩ : ByteArray).toList) = decide (s = dotsB) := str_beq s dotsB
theorem slash_eq (s : ByteArray) : (s.toList == (⟨#[47]⟩ : ByteArray).toList) = decide (s = slashB) := str_beq s slashB
theorem nil_eq (s : ByteArray) : (s.toList == (⟨#[]⟩ : ByteArray).toList) = decide (s.size = 0) := by
  rw [str_beq, decide_eq_decide]
  constructor
  · rintro rfl; rfl
  · intro h
    rw [← bs_of s, List.eq_nil_of_length_eq_zero (show s.data.toList.length = 0 from h)]; rfl
theorem t_dot : (⟨#[46]⟩ : ByteArray).toList = [46] := by rw [ByteArray.toList_eq]
theorem t_dots : (⟨#[46, 46]⟩ : ByteArray).toList = [46, 46] := by rw [ByteArray.toList_eq]
theorem t_slash : (⟨#[47]⟩ : ByteArray).toList = [47] := by rw [ByteArray.toList_eq]
theorem t_nil : (⟨#[]⟩ : ByteArray).toList = [] := by rw [ByteArray.toList_eq]
theorem dotB_ok : NameOk dotB := by decide
theorem dotsB_ok : NameOk dotsB := by decide

set_option maxHeartbeats 4000000 in
theorem rcheck_any (s : ByteArray) (hs : s.size ≤ 9223372036854775807) (w : World) :
    Calls Tryd.prog 12 #[.string s] w fun e w' => e = .returned (.int .i64 (nameE s)) ∧ Below w.heap.size w w' := by
  have mixed : Tryd.prog.follows .mixedOrders = true := by kernel_rfl
  have C := rname_any s hs w
  have q1 := dot_eq s
  have q2 := dots_eq s
  rw [t_dot] at q1
  rw [t_dots] at q2
  by_cases h : NameOk s
  · rw [decide_eq_true h] at C
    have C := Lib.hid C
    by_cases h1 : s = dotB
    · have HR : Hid (nameE s = 130) := Lib.hid (by unfold nameE; rw [if_neg (fun k => k.2.1 h1)])
      rw [HR.out]
      rw [decide_eq_true h1] at q1
      clear h h1 HR q2
      go_enter Tryd.func12, Tryd.ntmps12
      go_wp2_with fail
      refine C.out.mono ?_; rintro e w1 ⟨rfl, b1⟩
      go_wp2
      go_ret
      exact ⟨rfl, b1⟩
    · rw [decide_eq_false h1] at q1
      by_cases h2 : s = dotsB
      · have HR : Hid (nameE s = 130) := Lib.hid (by unfold nameE; rw [if_neg (fun k => k.2.2 h2)])
        rw [HR.out]
        rw [decide_eq_true h2] at q2
        clear h h1 h2 HR
        go_enter Tryd.func12, Tryd.ntmps12
        go_wp2_with fail
        refine C.out.mono ?_; rintro e w1 ⟨rfl, b1⟩
        go_wp2
        go_ret
        exact ⟨rfl, b1⟩
      · have HR : Hid (nameE s = 0) := Lib.hid (by unfold nameE; rw [if_pos ⟨h, h1, h2⟩])
        rw [HR.out]
        rw [decide_eq_false h2] at q2
        clear h h1 h2 HR
        go_enter Tryd.func12, Tryd.ntmps12
        go_wp2_with fail
        refine C.out.mono ?_; rintro e w1 ⟨rfl, b1⟩
        go_wp2
        go_ret
        exact ⟨rfl, b1⟩
  · rw [decide_eq_false h] at C
    have C := Lib.hid C
    have HR : Hid (nameE s = 130) := Lib.hid (by unfold nameE; rw [if_neg (fun k => h k.1)])
    rw [HR.out]
    clear h HR q1 q2
    go_enter Tryd.func12, Tryd.ntmps12
    go_wp2_with fail
    refine C.out.mono ?_; rintro e w1 ⟨rfl, b1⟩
    go_wp2
    go_ret
    exact ⟨rfl, b1⟩

/-! ### Join -/
def joinS (l : List ByteArray) : ByteArray := if joinE l = 0 then pathOf l else ⟨#[]⟩
theorem join_bad {l : List ByteArray} (h : ¬ Comps l) : joinE l = 130 ∧ joinS l = ⟨#[]⟩ := by
  have e : joinE l = 130 := by unfold joinE; rw [if_pos h]
  exact ⟨e, by unfold joinS; rw [e, if_neg (by decide)]⟩
theorem join_many {l : List ByteArray} (h : Comps l) (h2 : 16 < l.length) : joinE l = 3 ∧ joinS l = ⟨#[]⟩ := by
  have e : joinE l = 3 := by unfold joinE; rw [if_neg (by simp [h]), if_pos h2]
  exact ⟨e, by unfold joinS; rw [e, if_neg (by decide)]⟩
theorem join_long {l : List ByteArray} (h : Comps l) (h2 : ¬ 16 < l.length) (h3 : 256 < (pathB l).size) : joinE l = 3 ∧ joinS l = ⟨#[]⟩ := by
  have e : joinE l = 3 := by unfold joinE; rw [if_neg (by simp [h]), if_neg h2, if_pos h3]
  exact ⟨e, by unfold joinS; rw [e, if_neg (by decide)]⟩
theorem join_fine {l : List ByteArray} (h : Comps l) (h2 : ¬ 16 < l.length) (h3 : ¬ 256 < (pathB l).size) : joinE l = 0 ∧ joinS l = pathOf l := by
  have e : joinE l = 0 := by unfold joinE; rw [if_neg (by simp [h]), if_neg h2, if_neg h3]
  exact ⟨e, by unfold joinS; rw [if_pos e]⟩
theorem comps_size : ∀ {l : List ByteArray}, Comps l → (pathB l).size ≤ 33 * l.length
  | [], _ => Nat.le_refl _
  | s :: l, h => by
    have := comps_size (l := l) fun x hx => h x (by simp [hx])
    have h1 := (h s (by simp)).1.2
    rw [pathB_cons, ByteArray.size_append, ByteArray.size_append, List.length_cons]
    have : slashB.size = 1 := rfl
    omega
theorem comps_take {l : List ByteArray} (h : Comps l) (k : Nat) : Comps (l.take k) := fun s hs => h s (List.mem_of_mem_take hs)
theorem path_take {l : List ByteArray} {k : Nat} (h : k < l.length) : pathB (l.take (k + 1)) = pathB (l.take k) ++ slashB ++ sat l k := by
  rw [List.take_succ_eq_append_getElem h, pathB_snoc, sat_eq h, ByteArray.append_assoc]
theorem pathB_empty {l : List ByteArray} : (pathB l).size = 0 ↔ l = [] := by
  constructor
  · intro h
    cases l with
    | nil => rfl
    | cons s l => rw [pathB_size, List.map_cons, List.sum_cons] at h; omega
  · rintro rfl; rfl
set_option maxRecDepth 100000 in
set_option maxHeartbeats 4000000 in
theorem rjoin_any (l : List ByteArray) (hf : ∀ d ∈ l, d.size ≤ maxLen) (v : Value) (w : World) (hv : StrsIn v l w) :
    Calls Tryd.prog 17 #[v] w fun e w' => e = .returned (.tuple #[.string (joinS l), .int .i64 (joinE l)]) ∧ Below w.heap.size w w' := by
  obtain ⟨ad, cap, rfl, h1, h2, h3, -⟩ := strsIn_cells hv
  have NM := Lib.hid fun k (hk : k < l.length) w => rname_any (sat l k) (hf _ (sat_mem hk)) w
  have HBad : Hid (∀ k, k < l.length → ¬ NameOk (sat l k) → joinE l = 130 ∧ joinS l = ⟨#[]⟩) := Lib.hid fun k hk hn => join_bad fun h => hn (h _ (sat_mem hk))
  have HOk : Hid ((∀ k, k < l.length → NameOk (sat l k)) → Comps l) := Lib.hid fun h s hs => by
    obtain ⟨k, hk, rfl⟩ := List.getElem_of_mem hs
    rw [← sat_eq hk]; exact h k hk
  have HM := Lib.hid (@join_many l)
  have HL := Lib.hid (@join_long l)
  have HF := Lib.hid (@join_fine l)
  have HP : Hid (pathOf l = if (pathB l).size = 0 then slashB else pathB l) := Lib.hid (by
    unfold pathOf
    by_cases e : l = []
    · rw [if_pos e, if_pos (pathB_empty.2 e)]
    · rw [if_neg e, if_neg (fun h => e (pathB_empty.1 h))])
  have HS := Lib.hid fun k => @path_take l k
  have HZ : Hid (Comps l → ∀ k, k ≤ l.length → (pathB (l.take k)).size ≤ 33 * k) := Lib.hid fun h k hk => by
    have := comps_size (comps_take h k)
    rwa [List.length_take, Nat.min_eq_left hk] at this
  have HE : Hid (pathB (l.take l.length) = pathB l) := Lib.hid (by rw [List.take_length])
  have H0 : Hid (pathB (l.take 0) = ⟨#[]⟩) := Lib.hid (by rw [List.take_zero]; rfl)
  obtain ⟨U, hU⟩ : ∃ U : Nat → ByteArray, U = fun k => pathB (l.take k) := ⟨_, rfl⟩
  have hU2 : ∀ k, pathB (l.take k) = U k := fun k => by rw [hU]
  rw [← HE.out] at HL HF HP
  simp only [hU2] at HS HZ H0 HL HF HP
  clear HE
  generalize joinE l = E at *
  generalize joinS l = J at *
  generalize pathOf l = PO at *
  generalize Comps l = CC at *
  obtain ⟨D, hD⟩ : ∃ D : Nat → ByteArray, D = sat l := ⟨_, rfl⟩
  rw [← hD] at NM h3 HBad HOk HS
  clear hU hU2 hv hf
  generalize l.length = n at *
  clear hD
  go_enter Tryd.func17, Tryd.ntmps17
  go_wp2
  go_loopw [4] (fun q wr => ∃ k : Nat, q = .int .i64 k ∧ k ≤ n ∧ Hid (∀ j, j < k → NameOk (D j)) ∧ Below w.heap.size w wr) (fun q _ => n - (intOf q).toNat)
  case atStart => exact ⟨0, rfl, Nat.zero_le _, Lib.hid (fun j hj => by omega), Below.refl _ _⟩
  case round =>
    obtain ⟨k, rfl, hk, HK, hb⟩ := hrel
    by_cases hlt : k < n
    · obtain ⟨g, o, rfl, hg, hc⟩ := h3 (by omega)
      have c1 := hc wr hb k hlt
      have C := NM.out k hlt wr
      have HBk := Lib.hid (HBad.out k hlt)
      by_cases hok : NameOk (D k)
      · have HKn : Hid (∀ j, j < k + 1 → NameOk (D j)) := Lib.hid fun j hj => by
          by_cases e : j = k
          · subst e; exact hok
          · exact HK.out j (by omega)
        rw [decide_eq_true hok] at C
        have C := Lib.hid C
        generalize D k = d at *
        clear h3 hc HBk hok HK
        go_wp2_with fail
        refine C.out.mono ?_; rintro e w2 ⟨rfl, b2⟩
        have hb2 := bnext hb b2
        clear b2 C
        go_wp2
        exact ⟨⟨k + 1, by go_num, by omega, HKn, hb2⟩, by simp [intOf]; omega⟩
      · have HR := Lib.hid (HBk.out hok)
        rw [decide_eq_false hok] at C
        have C := Lib.hid C
        generalize D k = d at *
        clear h3 hc HBk hok HK
        go_wp2_with fail
        refine C.out.mono ?_; rintro e w2 ⟨rfl, b2⟩
        have hb2 := bnext hb b2
        clear b2 C
        go_wp2
        go_ret2
        exact ⟨by rw [HR.out.1, HR.out.2]; rfl, hb2⟩
    · obtain rfl : k = n := by omega
      have hcc := HOk.out HK.out
      by_cases h16 : 16 < k
      · have HR := Lib.hid (HM.out hcc h16)
        have t1 : decide ((16 : Int) < (k : Int)) = true := decide_eq_true (by omega)
        clear h16 hcc
        go_wp2
        go_ret2
        exact ⟨by rw [HR.out.1, HR.out.2]; rfl, hb⟩
      · have t1 : decide ((16 : Int) < (k : Int)) = false := decide_eq_false (by omega)
        have HLk := Lib.hid (HL.out hcc h16)
        have HFk := Lib.hid (HF.out hcc h16)
        have HZk := Lib.hid (HZ.out hcc)
        have hb0 := hb
        have wq : wr = wr := rfl
        clear hcc HL HF HM HZ HOk HBad HK NM wq
        go_wp2
        go_loopw [5, 6] (fun p q wx => ∃ j : Nat, q = .int .i64 j ∧ p = .string (U j) ∧ j ≤ k ∧ Below w.heap.size w wx) (fun _ q _ => k - (intOf q).toNat)
        case atStart => exact ⟨0, rfl, by rw [H0.out], Nat.zero_le _, hb0⟩
        case round =>
          obtain ⟨j, rfl, rfl, hj, hbx⟩ := hrel
          by_cases hlt2 : j < k
          · obtain ⟨g, o, rfl, hg, hc⟩ := h3 (by omega)
            have c1 := hc _ hbx j hlt2
            have hs := HS.out j hlt2
            have hz1 := HZk.out j hj
            have hz2 := HZk.out (j + 1) hlt2
            have hz3 : (U j).size + 1 + (D j).size = (U (j + 1)).size := by rw [hs, ByteArray.size_append, ByteArray.size_append]; rfl
            have e1 : ∀ w, (Op.stringOp .add (U j) ⟨#[47]⟩).run Tryd.prog w = .ok (.string (U j ++ ⟨#[47]⟩)) w := fun w => run_string_add_sum _ _ _ (by show (U j).size + 1 ≤ _; omega)
            have e2 : ∀ w, (Op.stringOp .add (U j ++ ⟨#[47]⟩) (D j)).run Tryd.prog w = .ok (.string (U (j + 1))) w := fun w => by
              rw [hs]; exact run_string_add_sum _ _ _ (by rw [ByteArray.size_append]; show (U j).size + 1 + _ ≤ _; omega)
            generalize D j = d at *
            generalize hx : U (j + 1) = x at *
            have HX := Lib.hid hx
            clear hs hz3
            clear h3 hc hx
            go_wp2
            exact ⟨⟨j + 1, by go_num, by rw [HX.out], by omega, hbx⟩, by simp [intOf]; omega⟩
          · obtain rfl : j = k := by omega
            have hz1 := HZk.out j hj
            have q1 := nil_eq (U j)
            rw [t_nil] at q1
            by_cases h256 : 256 < (U j).size
            · have HR := Lib.hid (HLk.out h256)
              have t2 : decide ((256 : Int) < ((U j).size : Int)) = true := decide_eq_true (by omega)
              clear h256 q1
              go_wp2
              go_ret2
              exact ⟨by rw [HR.out.1, HR.out.2]; rfl, hbx⟩
            · have HR := Lib.hid (HFk.out h256)
              have t2 : decide ((256 : Int) < ((U j).size : Int)) = false := decide_eq_false (by omega)
              by_cases h0 : (U j).size = 0
              · have HR2 : Hid (PO = ⟨#[47]⟩) := Lib.hid (by rw [HP.out, if_pos h0]; rfl)
                rw [decide_eq_true h0] at q1
                clear h256 h0 hz1
                go_wp2
                go_ret2
                exact ⟨by rw [HR.out.1, HR.out.2, HR2.out]; rfl, hbx⟩
              · have HR2 : Hid (PO = U j) := Lib.hid (by rw [HP.out, if_neg h0])
                rw [decide_eq_false h0] at q1
                clear h256 h0 hz1
                go_wp2
                go_ret2
                exact ⟨by rw [HR.out.1, HR.out.2, HR2.out]; rfl, hbx⟩
end Go.Proofs.YtgjcdjcngepleaaDoor
