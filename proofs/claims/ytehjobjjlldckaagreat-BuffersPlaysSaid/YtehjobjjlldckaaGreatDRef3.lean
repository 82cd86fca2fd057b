/- The document's Crash, Kept. -/
import Derived.Test.YtehjobjjlldckaaGreatDRef
import Derived.Test.YtehjobjjlldckaaGreatDCrash2
namespace Go.Proofs.YtehjobjjlldckaaGreat
set_option linter.unusedVariables false
open Go.RowKit

set_option maxHeartbeats 2000000 in
theorem rcrash_any {d lo hi : Nat} {S : St} (K : List Bool) (kv : Value) (w : World) (h : RefAt d lo hi S w) (hkv : RowIn 1 kv K.length (K.map Value.bool) w) :
    Calls Tryz.prog 25 #[.pointer (some ⟨d, 0, none⟩), kv] w fun e w' => e = .returned (.string (crashT S K)) ∧ w = w' := by
  obtain ⟨gn, gk, gp, cn, ck, cp, h⟩ := h
  have c0 : w.cell? ⟨d, 0, none⟩ = some (.slice (some ⟨gn, 0, none⟩) S.n cn) := h.blk.cell 0
  have c1 : w.cell? ⟨d, 1, none⟩ = some (.slice (some ⟨gk, 0, none⟩) S.n ck) := h.blk.cell 1
  have c2 : w.cell? ⟨d, 2, none⟩ = some (.slice (some ⟨gp, 0, none⟩) S.n cp) := h.blk.cell 2
  have hn := h.ok.hi
  obtain ⟨hcn1, hcn2⟩ := h.cn
  obtain ⟨hck1, hck2⟩ := h.ck
  obtain ⟨hcp1, hcp2⟩ := h.cp
  obtain ⟨adk, capk, rfl, hk1, hk2, hk3, -⟩ := hkv.shape
  have HK3 := Lib.hid hk3
  have H := Lib.hid h
  unfold crashT
  clear h hkv hk3
  go_enter Tryz.func25, Tryz.ntmps25
  go_wp2
  go_loopw [5, 6, 7] (fun o c q wr => ∃ i x, q = .int .i64 (i : Nat) ∧ i ≤ S.n ∧ c = .int .i64 ((cntT S.pend i : Nat) : Int) ∧ o = .string x ∧ Hid (x = cat (crashAt S.now S.was S.pend (keepOf K)) i) ∧ wr = w) (fun _ _ q _ => S.n - (intOf q).toNat)
  case atStart => exact ⟨0, _, rfl, Nat.zero_le _, rfl, rfl, Lib.hid rfl, rfl⟩
  case round =>
    obtain ⟨i, x, rfl, hiI, rfl, rfl, HX, rfl⟩ := hrel
    have hcnt := cntT_le S.pend i
    by_cases hlt : i < S.n
    · have q1 : wr.cell? ⟨gn, i, none⟩ = some (.string (S.now i)) := (H.out.now.2 i hlt).1
      have q2 : wr.cell? ⟨gk, i, none⟩ = some (.string (S.was i)) := (H.out.was.2 i hlt).1
      have q3 : wr.cell? ⟨gp, i, none⟩ = some (.bool (S.pend i)) := (H.out.pend.2 i hlt).1
      have hx : x.size = i * 128 := by
        rw [HX.out]
        exact cat_size fun j hj => crash_size (H.out.ok.now j (by omega)) (H.out.ok.was j (by omega))
      have z1 := H.out.ok.now i hlt
      have z2 := H.out.ok.was i hlt
      have s1 : x.size + (S.now i).size ≤ 9223372036854775807 := by omega
      have s2 : x.size + (S.was i).size ≤ 9223372036854775807 := by omega
      have HN : Hid (∀ t, crashAt S.now S.was S.pend (keepOf K) i = t → x ++ t = cat (crashAt S.now S.was S.pend (keepOf K)) (i + 1)) := Lib.hid fun t ht => by rw [cat, ← HX.out, ht]
      have HC : Hid (cntT S.pend (i + 1) = cntT S.pend i + (if S.pend i then 1 else 0)) := Lib.hid rfl
      have HW : Hid (crashAt S.now S.was S.pend (keepOf K) i = if S.pend i && keepOf K (cntT S.pend i) then S.now i else S.was i) := Lib.hid rfl
      clear HX hx z1 z2
      cases hp : S.pend i with
      | false =>
        rw [hp] at q3 HC HW
        have HN2 := Lib.hid (HN.out (S.was i) (by rw [HW.out]; rfl))
        have HC2 : Hid (cntT S.pend (i + 1) = cntT S.pend i) := Lib.hid (by rw [HC.out]; rfl)
        generalize S.now i = tn at *
        generalize S.was i = tw at *
        clear HN HW HC hp
        go_wp2
        exact ⟨⟨i + 1, _, by go_num, by omega, by rw [HC2.out], rfl, HN2, by first | trivial | rfl⟩, by simp [intOf]; omega⟩
      | true =>
        rw [hp] at q3 HC HW
        have HC2 : Hid (cntT S.pend (i + 1) = cntT S.pend i + 1) := Lib.hid (by rw [HC.out]; rfl)
        by_cases hki : cntT S.pend i < K.length
        · obtain ⟨gq, oq, rfl, hgq, hcq⟩ := HK3.out (by rw [List.length_map]; omega)
          have q4 : wr.cell? ⟨gq, oq + cntT S.pend i, none⟩ = some (.bool K[cntT S.pend i]) := hcq (cntT S.pend i) (.bool K[cntT S.pend i]) (by rw [List.getElem?_map, List.getElem?_eq_getElem hki]; rfl)
          have hkeep := keepOf_lt hki
          rw [hkeep] at HW
          generalize K[cntT S.pend i] = kb at *
          cases kb with
          | true =>
            have HN2 := Lib.hid (HN.out (S.now i) (by rw [HW.out]; rfl))
            generalize S.now i = tn at *
            generalize S.was i = tw at *
            clear HN HW HC hp hkeep hcq
            generalize cntT S.pend i = c at *
            go_wp2
            exact ⟨⟨i + 1, _, by go_num, by omega, by rw [HC2.out]; go_num, rfl, HN2, by first | trivial | rfl⟩, by simp [intOf]; omega⟩
          | false =>
            have HN2 := Lib.hid (HN.out (S.was i) (by rw [HW.out]; rfl))
            generalize S.now i = tn at *
            generalize S.was i = tw at *
            clear HN HW HC hp hkeep hcq
            generalize cntT S.pend i = c at *
            go_wp2
            exact ⟨⟨i + 1, _, by go_num, by omega, by rw [HC2.out]; go_num, rfl, HN2, by first | trivial | rfl⟩, by simp [intOf]; omega⟩
        · have hkeep := keepOf_ge (K := K) (i := cntT S.pend i) (by omega)
          rw [hkeep] at HW
          have HN2 := Lib.hid (HN.out (S.was i) (by rw [HW.out]; rfl))
          generalize S.now i = tn at *
          generalize S.was i = tw at *
          clear HN HW HC hp hkeep
          generalize cntT S.pend i = c at *
          go_wp2
          exact ⟨⟨i + 1, _, by go_num, by omega, by rw [HC2.out]; go_num, rfl, HN2, by first | trivial | rfl⟩, by simp [intOf]; omega⟩
    · obtain rfl : i = S.n := by omega
      go_wp2
      go_ret
      have hx := HX.out
      subst hx
      exact ⟨rfl, rfl⟩
theorem rkept_any {d lo hi : Nat} {S : St} (w : World) (h : RefAt d lo hi S w) :
    Calls Tryz.prog 22 #[.pointer (some ⟨d, 0, none⟩)] w fun e w' => e = .returned (.string (cat S.was S.n)) ∧ w = w' := by
  have e : crashT S [] = cat S.was S.n := cat_congr fun i hi => by
    unfold crashAt keepOf; simp
  have C := Lib.hid (rcrash_any [] (.slice none 0 0) w h (RowIn.nil 1 w))
  rw [e] at C
  clear h
  go_enter Tryz.func22, Tryz.ntmps22
  go_wp2_with fail
  refine C.out.mono ?_; rintro e w' ⟨rfl, rfl⟩
  go_wp2
  go_ret
  exact ⟨rfl, rfl⟩
end Go.Proofs.YtehjobjjlldckaaGreat
