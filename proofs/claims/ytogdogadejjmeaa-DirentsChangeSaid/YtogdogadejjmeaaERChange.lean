/- Find, Room, Insert, Remove: the document's. -/
import Derived.Test.YtogdogadejjmeaaERParse
import Derived.Test.YtogdogadejjmeaaEChange
namespace Go.Proofs.Ytogdogadejjmeaa
set_option linter.unusedVariables false
open Go.RowKit

theorem find_hit {l : List Den} {s : ByteArray} {k : Nat} (hk : k < l.length) (h1 : ∀ j, j < k → (dat l j).name ≠ s) (h2 : (dat l k).name = s) : findD l s = some (dat l k).ino := by
  unfold findD
  have : l.find? (fun d => decide (d.name = s)) = some l[k] := by
    rw [List.find?_eq_some_iff_getElem]
    exact ⟨decide_eq_true (by rw [← dat_eq hk]; exact h2), k, hk, rfl, fun j hj => by
      have := h1 j hj
      rw [dat_eq (by omega)] at this
      simp [this]⟩
  rw [this, dat_eq hk]; rfl
theorem find_miss {l : List Den} {s : ByteArray} (h : ∀ j, j < l.length → (dat l j).name ≠ s) : findD l s = none := by
  apply find_none
  intro hm
  obtain ⟨d, hd, he⟩ := has_mem hm
  obtain ⟨j, hj, rfl⟩ := List.getElem_of_mem hd
  exact h j hj (by rw [dat_eq hj]; exact he)
set_option maxHeartbeats 4000000 in
theorem rfind_any (b : ByteArray) (hb : b.size ≤ 2000) (s : ByteArray) (w : World) :
    Calls Try.prog 17 #[.string b, .string s] w fun e w' => e = .returned (.tuple #[.int .i64 (findN b s), .bool (findD (listP b) s).isSome]) ∧ Below w.heap.size w w' := by
  have P := Lib.hid (rparse_any b hb w)
  have HH : Hid (∀ k, k < (listP b).length → (∀ j, j < k → (dat (listP b) j).name ≠ s) → (dat (listP b) k).name = s → (findN b s = (dat (listP b) k).ino ∧ (findD (listP b) s).isSome = true)) := Lib.hid fun k hk h1 h2 => by
    unfold findN; rw [find_hit hk h1 h2]; exact ⟨rfl, rfl⟩
  have HM : Hid ((∀ j, j < (listP b).length → (dat (listP b) j).name ≠ s) → (findN b s = 0 ∧ (findD (listP b) s).isSome = false)) := Lib.hid fun h => by
    unfold findN; rw [find_miss h]; exact ⟨rfl, rfl⟩
  generalize errP b = E at *
  generalize findN b s = N at *
  generalize (findD (listP b) s).isSome = B at *
  generalize listP b = L at *
  go_enter Try.func17, Try.ntmps17
  go_wp2_with fail
  refine P.out.mono ?_; rintro e w1 ⟨v, rfl, hv, b1⟩
  obtain ⟨ad, cap, rfl, c1, c2, c3, -⟩ := densIn_cells (densAt_in hv)
  clear P hv
  go_wp2
  go_loopw [8] (fun p wr => ∃ k : Nat, p = .int .i64 k ∧ k ≤ L.length ∧ Hid (∀ j, j < k → (dat L j).name ≠ s) ∧ wr = w1) (fun p _ => L.length - (intOf p).toNat)
  case atStart => exact ⟨0, rfl, Nat.zero_le _, Lib.hid (fun j hj => by omega), rfl⟩
  case round =>
    obtain ⟨k, rfl, hk, HK, rfl⟩ := hrel
    by_cases hlt : k < L.length
    · obtain ⟨g, o, rfl, hg, hcc⟩ := c3 (by omega)
      obtain ⟨z0, z1⟩ := hcc wr (Below.refl _ _) k hlt
      by_cases hn : (dat L k).name = s
      · obtain ⟨h1, h2⟩ := HH.out k hlt HK.out hn
        have t1 : ((dat L k).name.toList == s.toList) = true := by rw [str_beq]; exact decide_eq_true hn
        have HR : Hid (N = (dat L k).ino ∧ B = true) := Lib.hid ⟨h1, h2⟩
        clear h1 h2 hn hcc c3 HK HH HM
        generalize dat L k = d at *
        go_wp2
        go_ret2
        exact ⟨by rw [HR.out.1, HR.out.2]; rfl, b1⟩
      · have t1 : ((dat L k).name.toList == s.toList) = false := by rw [str_beq]; exact decide_eq_false hn
        have HK2 : Hid (∀ j, j < k + 1 → (dat L j).name ≠ s) := Lib.hid fun j hj => by
          by_cases e : j = k
          · subst e; exact hn
          · exact HK.out j (by omega)
        clear hn hcc HK
        generalize dat L k = d at *
        go_wp2
        exact ⟨⟨k + 1, by go_num, by omega, HK2, by first | rfl | trivial⟩, by simp [intOf]; omega⟩
    · obtain rfl : k = L.length := by omega
      have HR := Lib.hid (HM.out HK.out)
      go_wp2
      go_ret2
      exact ⟨by rw [HR.out.1, HR.out.2]; rfl, b1⟩
set_option maxHeartbeats 4000000 in
theorem rroom_any (b : ByteArray) (hb : b.size ≤ 2000) (w : World) :
    Calls Try.prog 19 #[.string b] w fun e w' => e = .returned (.int .i64 (roomP b)) ∧ Below w.heap.size w w' := by
  have P := rparse_any b hb w
  obtain ⟨f1, f2, f3⟩ := listOk_fit (listP_ok b)
  by_cases hd : IsDir b
  · rw [errP_yes hd] at P
    have HR : Hid (roomP b = 128 - (used ((listP b).take (listP b).length) : Int)) := Lib.hid (by rw [List.take_length, listP_yes hd]; unfold roomP; rw [if_pos hd])
    have HU : Hid (∀ k, k < (listP b).length → used ((listP b).take (k + 1)) = used ((listP b).take k) + (5 + (dat (listP b) k).name.size)) := Lib.hid fun k hk => used_take hk
    have HL : Hid (∀ k, used ((listP b).take k) ≤ 128) := Lib.hid fun k => Nat.le_trans (used_le_take _ k) f3
    generalize roomP b = R at *
    generalize listP b = L at *
    obtain ⟨U, hU⟩ : ∃ U : Nat → Nat, U = fun k => used (L.take k) := ⟨_, rfl⟩
    have hU2 : ∀ k, used (L.take k) = U k := fun k => by rw [hU]
    have H0 : Hid (U 0 = 0) := Lib.hid (by rw [hU]; rfl)
    simp only [hU2] at HR HU HL
    have P := Lib.hid P
    clear hd f1 f2 f3 hU hU2
    go_enter Try.func19, Try.ntmps19
    go_wp2_with fail
    refine P.out.mono ?_; rintro e w1 ⟨v, rfl, hv, b1⟩
    obtain ⟨ad, cap, rfl, c1, c2, c3, -⟩ := densIn_cells (densAt_in hv)
    clear P hv
    go_wp2
    go_loopw [5, 6] (fun q p wr => ∃ k : Nat, p = .int .i64 k ∧ q = .int .i64 (128 - (U k : Int)) ∧ k ≤ L.length ∧ wr = w1) (fun _ p _ => L.length - (intOf p).toNat)
    case atStart => exact ⟨0, rfl, by rw [H0.out]; rfl, Nat.zero_le _, rfl⟩
    case round =>
      obtain ⟨k, rfl, rfl, hk, rfl⟩ := hrel
      by_cases hlt : k < L.length
      · obtain ⟨g, o, rfl, hg, hcc⟩ := c3 (by omega)
        obtain ⟨z0, z1⟩ := hcc wr (Below.refl _ _) k hlt
        have hu := HU.out k hlt
        have hl := HL.out (k + 1)
        have HZ : Hid ((128 : Int) - (U k : Int) - 5 - ((dat L k).name.size : Int) = 128 - (U (k + 1) : Int)) := Lib.hid (by omega)
        have hs : (dat L k).name.size ≤ 128 := by omega
        have hu0 : U k ≤ 128 := by omega
        generalize dat L k = d at *
        clear hcc hu hl
        go_wp2
        exact ⟨⟨k + 1, by go_num, by rw [← HZ.out], by omega, by first | rfl | trivial⟩, by simp [intOf]; omega⟩
      · obtain rfl : k = L.length := by omega
        go_wp2
        go_ret
        exact ⟨by rw [HR.out]; rfl, b1⟩
  · rw [errP_no hd, listP_no hd] at P
    have HR : Hid (roomP b = 0) := Lib.hid (by unfold roomP; rw [if_neg hd])
    have P := Lib.hid P
    clear hd f1 f2 f3
    go_enter Try.func19, Try.ntmps19
    go_wp2_with fail
    refine P.out.mono ?_; rintro e w1 ⟨v, rfl, hv, b1⟩
    obtain ⟨ad, cap, rfl, -⟩ := shape_of hv
    go_wp2
    go_ret
    exact ⟨by rw [HR.out]; rfl, b1⟩
set_option maxHeartbeats 4000000 in
theorem rinsert_any (b : ByteArray) (hb : b.size ≤ 2000) (x : Den) (hx : x.name.size ≤ 100000) (hx2 : I64 x.ino) (w : World) :
    Calls Try.prog 21 #[.string b, denV x] w fun e w' => e = .returned (.tuple #[.string (insS b x), .int .i64 (insR b x)]) ∧ Below w.heap.size w w' := by
  have hb0 := balloc1 w (.cells (denC x) 25)
  have P := rparse_any b hb (w.alloc (.cells (denC x) 25))
  obtain ⟨f1, f2, f3⟩ := listOk_fit (listP_ok b)
  have hcl := (den_new w x 25)
  have hsz := size_alloc w (.cells (denC x) 25)
  unfold insS insR
  by_cases hd : IsDir b
  · rw [errP_yes hd] at P
    rw [if_pos hd, if_pos hd, ← listP_yes hd]
    have K := fun v w hv => rpack_any (listP b ++ [x]) (by simp; omega) (fun d hd => by
      rcases List.mem_append.1 hd with h | h
      · exact f1 d h
      · simp at h; subst h; exact ⟨by omega, hx2⟩) (by rw [used_snoc]; unfold denLen; omega) v w hv
    unfold packRet at K
    generalize packS (listP b ++ [x]) = S at *
    generalize packE (listP b ++ [x]) = E at *
    generalize listP b = L at *
    have P := Lib.hid P
    have K := Lib.hid K
    have HC := Lib.hid hcl
    obtain ⟨nm, n⟩ := x
    dsimp only at *
    clear hd f1 f3 hcl hx hx2
    go_enter Try.func21, Try.ntmps21
    go_wp2_with fail
    refine P.out.mono ?_; rintro e w1 ⟨v, rfl, hv, b1⟩
    obtain ⟨c0, c1⟩ := HC.out ⟨w1, b1⟩
    dsimp only at c0 c1
    obtain ⟨ad, cap, rfl, -⟩ := shape_of hv
    have hb1 := bnext hb0 b1
    have hs1 := b1.size
    go_wp2_with (at_builtin; refine wpList_appD rfl _ _ rfl (w.heap.size + 1) _ L ⟨nm, n⟩ rfl (World.ownsRow.alloc (row_down (by rw [hsz]; exact Nat.le_refl _) hv) _) w1 rfl rfl (by omega) (by rw [size_alloc]; omega) ?_)
    intro v5 w5 hv5 b5
    have hb5 : Below w.heap.size w w5 := (balloc hb1 _).trans (b5.mono (by omega))
    obtain ⟨ad5, cap5, e5, -⟩ := shape_of hv5
    rw [List.length_append, List.length_singleton] at e5
    subst e5
    clear hv b1 b5 hb1
    go_wp2_with fail
    refine (K.out _ _ (densAt_in hv5)).mono ?_; rintro e w6 ⟨rfl, b6⟩
    have hb6 := bnext hb5 b6
    clear hv5 b6
    go_wp2
    go_ret2
    exact ⟨rfl, hb6⟩
  · rw [errP_no hd, listP_no hd] at P
    rw [if_neg hd, if_neg hd]
    have P := Lib.hid P
    obtain ⟨nm, n⟩ := x
    dsimp only at *
    clear hd f1 f2 f3 hcl
    go_enter Try.func21, Try.ntmps21
    go_wp2_with fail
    refine P.out.mono ?_; rintro e w1 ⟨v, rfl, hv, b1⟩
    obtain ⟨ad, cap, rfl, -⟩ := shape_of hv
    have hb1 := bnext hb0 b1
    clear hv b1
    go_wp2
    go_ret2
    exact ⟨rfl, hb1⟩
theorem drop_take_yes {l : List Den} {s : ByteArray} {k : Nat} (hk : k < l.length) (h : (dat l k).name = s) : dropD (l.take (k + 1)) s = dropD (l.take k) s := by
  rw [List.take_succ_eq_append_getElem hk, ← dat_eq hk]
  unfold dropD
  rw [List.filter_append]
  simp [h]
theorem drop_take_no {l : List Den} {s : ByteArray} {k : Nat} (hk : k < l.length) (h : (dat l k).name ≠ s) : dropD (l.take (k + 1)) s = dropD (l.take k) s ++ [dat l k] := by
  rw [List.take_succ_eq_append_getElem hk, ← dat_eq hk]
  unfold dropD
  rw [List.filter_append]
  simp [h]
set_option maxHeartbeats 4000000 in
theorem rremove_any (b : ByteArray) (hb : b.size ≤ 2000) (s : ByteArray) (w : World) :
    Calls Try.prog 23 #[.string b, .string s] w fun e w' => e = .returned (.tuple #[.string (remS b s), .bool (decide (Has (listP b) s))]) ∧ Below w.heap.size w w' := by
  have P := rparse_any b hb w
  have hok := listP_ok b
  by_cases hd : IsDir b
  · rw [errP_yes hd] at P
    have hok2 := drop_ok hok s
    obtain ⟨f1, f2, f3⟩ := listOk_fit hok2
    obtain ⟨-, g2, -⟩ := listOk_fit hok
    have hE := (packE_zero _).2 hok2
    have HSM : Hid ((dropD (listP b) s).length = (listP b).length → (remS b s = b ∧ decide (Has (listP b) s) = false)) := Lib.hid fun h => by
      have hn := (drop_length_has hok.2.2.1 s).1 h
      unfold remS; rw [if_neg hn]; exact ⟨rfl, decide_eq_false hn⟩
    have HSN : Hid ((dropD (listP b) s).length ≠ (listP b).length → (remS b s = pack (dropD (listP b) s) ∧ decide (Has (listP b) s) = true)) := Lib.hid fun h => by
      have hn : Has (listP b) s := Classical.byContradiction fun q => h ((drop_length_has hok.2.2.1 s).2 q)
      unfold remS; rw [if_pos hn]; exact ⟨rfl, decide_eq_true hn⟩
    have K : ∀ v w, DensIn v (dropD (listP b) s) w → Calls Try.prog 11 #[v] w fun e w' => e = .returned (.tuple #[.string (pack (dropD (listP b) s)), .int .i64 0]) ∧ Below w.heap.size w w' := fun v w hv => by
      have := rpack_any (dropD (listP b) s) (by omega) f1 (by omega) v w hv
      unfold packRet packS at this
      rwa [if_pos hE, hE] at this
    have HDY : Hid (∀ k, k < (listP b).length → (dat (listP b) k).name = s → dropD ((listP b).take (k + 1)) s = dropD ((listP b).take k) s) := Lib.hid fun k hk h => drop_take_yes hk h
    have HDN : Hid (∀ k, k < (listP b).length → (dat (listP b) k).name ≠ s → dropD ((listP b).take (k + 1)) s = dropD ((listP b).take k) s ++ [dat (listP b) k]) := Lib.hid fun k hk h => drop_take_no hk h
    have HDE : Hid (dropD ((listP b).take (listP b).length) s = dropD (listP b) s) := Lib.hid (by rw [List.take_length])
    have HD0 : Hid (dropD ((listP b).take 0) s = []) := Lib.hid rfl
    have HDL : Hid (∀ k, (dropD ((listP b).take k) s).length ≤ 128) := Lib.hid fun k => by
      have h1 : (dropD ((listP b).take k) s).length ≤ ((listP b).take k).length := List.length_filter_le _ _
      rw [List.length_take] at h1; omega
    generalize pack (dropD (listP b) s) = PK at *
    generalize remS b s = RS at *
    generalize decide (Has (listP b) s) = RB at *
    generalize listP b = L at *
    obtain ⟨DD, hDD⟩ : ∃ DD : Nat → List Den, DD = fun k => dropD (L.take k) s := ⟨_, rfl⟩
    have hDD2 : ∀ k, dropD (L.take k) s = DD k := fun k => by rw [hDD]
    simp only [hDD2] at HDY HDN HDE HD0 HDL
    have P := Lib.hid P
    have K := Lib.hid K
    clear hd hok hok2 f1 f2 f3 hE hDD hDD2
    go_enter Try.func23, Try.ntmps23
    go_wp2_with fail
    refine P.out.mono ?_; rintro e w1 ⟨v, rfl, hv, b1⟩
    obtain ⟨ad, cap, rfl, c1, c2, c3, -⟩ := densIn_cells (densAt_in hv)
    clear P hv
    go_wp2
    go_loopw [8, 9] (fun vo p wr => ∃ k : Nat, p = .int .i64 k ∧ k ≤ L.length ∧ DensAt w1.heap.size vo (DD k) wr ∧ Below w1.heap.size w1 wr) (fun _ p _ => L.length - (intOf p).toNat)
    case atStart => exact ⟨0, rfl, Nat.zero_le _, by rw [HD0.out]; exact World.ownsRow_nil _ _ _ _, Below.refl _ _⟩
    case round =>
      obtain ⟨k, rfl, hk, hown, hb⟩ := hrel
      have hdl := HDL.out k
      obtain ⟨ad2, cap2, hsh, -⟩ := shape_of hown
      subst hsh
      by_cases hlt : k < L.length
      · obtain ⟨g, o, rfl, hg, hcc⟩ := c3 (by omega)
        obtain ⟨z0, z1⟩ := hcc wr hb k hlt
        by_cases hn : (dat L k).name = s
        · have t1 : ((dat L k).name.toList == s.toList) = true := by rw [str_beq]; exact decide_eq_true hn
          have hY := HDY.out k hlt hn
          have HO : Hid (DensAt w1.heap.size (.slice ad2 (DD k).length cap2) (DD (k + 1)) wr) := Lib.hid (by rw [hY]; exact hown)
          clear hn hcc hY hown
          generalize dat L k = d at *
          go_wp2
          exact ⟨⟨k + 1, by go_num, by omega, HO.out, hb⟩, by simp [intOf]; omega⟩
        · have t1 : ((dat L k).name.toList == s.toList) = false := by rw [str_beq]; exact decide_eq_false hn
          have HN := Lib.hid (HDN.out k hlt hn)
          have hbs := hb.size
          clear hn hcc
          generalize dat L k = d at *
          obtain ⟨nm, n⟩ := d
          dsimp only at *
          go_wp2_with (at_builtin; refine wpList_appD rfl _ _ rfl w1.heap.size _ (DD k) ⟨nm, n⟩ rfl (World.ownsRow.alloc hown _) wr rfl rfl (by omega) (by rw [size_alloc]; omega) ?_)
          intro v5 w5 hv5 b5
          have hb5 := (balloc hb _).trans b5
          have HO : Hid (DensAt w1.heap.size v5 (DD (k + 1)) w5) := Lib.hid (by rw [HN.out]; exact hv5)
          clear hv5 b5 hown hb
          go_wp2
          exact ⟨⟨k + 1, by go_num, by omega, HO.out, hb5⟩, by simp [intOf]; omega⟩
      · obtain rfl : k = L.length := by omega
        rw [HDE.out] at hown hdl ⊢
        have hbw := bnext b1 hb
        by_cases hsame : (dropD L s).length = L.length
        · have HF := Lib.hid (HSM.out hsame)
          have t1 : (((dropD L s).length : Int) == (L.length : Int)) = true := by rw [beq_iff_eq]; omega
          clear hsame HSM HSN HDY HDN HDE HD0 HDL K
          go_wp2
          go_ret2
          exact ⟨by rw [HF.out.1, HF.out.2]; rfl, hbw⟩
        · have HF := Lib.hid (HSN.out hsame)
          have t1 : (((dropD L s).length : Int) == (L.length : Int)) = false := by rw [beq_eq_false_iff_ne]; omega
          clear hsame HSM HSN HDY HDN HDE HD0 HDL
          go_wp2_with fail
          refine (K.out _ _ (densAt_in hown)).mono ?_; rintro e w5 ⟨rfl, b5⟩
          have hb5 := bnext hbw b5
          go_wp2
          go_ret2
          exact ⟨by rw [HF.out.1, HF.out.2]; rfl, hb5⟩
  · rw [errP_no hd, listP_no hd] at P
    have HF : Hid (remS b s = b ∧ decide (Has (listP b) s) = false) := Lib.hid (by
      have hn : ¬ Has (listP b) s := by rw [listP_no hd]; unfold Has; simp
      unfold remS; rw [if_neg hn]; exact ⟨rfl, decide_eq_false hn⟩)
    have P := Lib.hid P
    clear hd hok
    go_enter Try.func23, Try.ntmps23
    go_wp2_with fail
    refine P.out.mono ?_; rintro e w1 ⟨v, rfl, hv, b1⟩
    obtain ⟨ad, cap, rfl, -⟩ := shape_of hv
    go_wp2
    go_ret2
    exact ⟨by rw [HF.out.1, HF.out.2]; rfl, b1⟩
end Go.Proofs.Ytogdogadejjmeaa
