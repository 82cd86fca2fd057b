import Derived.Test.YtcpoajjgmfglfaaGreatPd50
import Derived.Test.YtcpoajjgmfglfaaGreatPd23
import Derived.Test.YtcpoajjgmfglfaaGreatPd51
set_option linter.unusedVariables false
set_option linter.unusedSimpArgs false
set_option linter.constructorNameAsVariable false
/- ForksNodes, walked. -/
namespace Go.Proofs.YtcpoajjgmfglfaaGreat
set_option linter.unusedVariables false
set_option linter.unusedSimpArgs false
open Go.RowKit

/-- another row behind stores to one block -/
theorem row_grown {B n z : Nat} {e : TypeId} {v : Value} {xs : List Value} {w w' : World} {row : Option Nat} (h : w.ownsRow B e z v n xs) (g : w.grownBy w' row) (hne : ∀ q, v.ownBlock = some q → some q ≠ row) : w'.ownsRow B e z v n xs :=
  own_eq h fun q hq => g.block q (own_ty h hq).2.1 (hne q hq)
set_option maxRecDepth 100000 in
set_option maxHeartbeats 8000000 in
theorem fnodes_walk (l : List Ent) (hf : fitE l) (leaf : Bool) (s : ByteArray) (hs : s.size ≤ maxLen) (v : Value) (w : World) (hv : EntsIn v l w) :
    Calls Tryz.prog 3 #[v, .bool leaf, .string s] w fun e w' => e = .returned (.bool true) ∧ Below w.heap.size w w' := by
  have mixed : Tryz.prog.follows .mixedOrders = true := by kernel_rfl
  have hms : maxLen = 9223372036854775807 := rfl
  obtain ⟨ad, cap, rfl, c1, c2, -, -⟩ := entsIn_cells hv
  by_cases hl : 1000 < l.length
  · have d1 : decide ((1000 : Int) < (l.length : Int)) = true := decide_eq_true (by omega)
    clear hv
    go_enter Tryz.func3, Tryz.ntmps3
    go_wp2
    go_ret
    exact ⟨rfl, Below.refl _ _⟩
  have d1 : decide ((1000 : Int) < (l.length : Int)) = false := decide_eq_false (by omega)
  have T1 := Lib.hid (twinf_any l (by omega) _ w hv)
  have HV := Lib.hid hv
  have EN := Lib.hid fun u W h => fkenc_any l hf leaf u W h
  have RE := Lib.hid fun W (b : Below w.heap.size w W) => rfenc_any l hf leaf _ W (hv.kept b)
  have DE := Lib.hid fun W => fkdec_any s hs W
  have RD := Lib.hid fun W => rfdec_any s hs W
  have LF := Lib.hid fun B vt W (b : Below w.heap.size w W) (h : TwinF B vt l W) => leftf_any l (by omega) B vt _ W h (hv.kept b)
  have SE := Lib.hid fun (m : List Ent) a b W (h1 : EntsIn a m W) (h2 : EntsIn b m W) => (by have := sameEnts_any m m a b W h1 h2; rw [decide_eq_true rfl] at this; exact this : Calls Tryz.prog 14 #[a, b] W fun e w' => e = .returned (.bool true) ∧ Below W.heap.size W w')
  have AL := Lib.hid fun W => lalive_any W
  obtain ⟨S, hS⟩ : ∃ S, encT l leaf = S := ⟨_, rfl⟩
  obtain ⟨E, hE⟩ : ∃ E, encE l leaf = E := ⟨_, rfl⟩
  obtain ⟨M, hM⟩ : ∃ S, decL s = S := ⟨_, rfl⟩
  obtain ⟨F, hF⟩ : ∃ E, decF s = E := ⟨_, rfl⟩
  obtain ⟨G, hG⟩ : ∃ E, decE s = E := ⟨_, rfl⟩
  rw [hS, hE] at EN RE
  rw [hM, hF, hG] at DE RD
  clear hS hE hM hF hG hv hms
  have s1 : (S.toList == S.toList) = true := by simp
  have s2 : (E != E) = false := by simp
  have s3 : (F != F) = false := by simp
  have s4 : (G != G) = false := by simp
  have s5 : (G == G) = true := by simp
  go_enter Tryz.func3, Tryz.ntmps3
  go_wp2_with fail
  refine T1.out.mono ?_; rintro e w1 ⟨v1, rfl, t1, b1⟩
  obtain ⟨g1, k1, rfl, -⟩ := id t1
  have HT1 := Lib.hid t1
  have HB1 := Lib.hid b1
  have E1 := Lib.hid (EN.out _ w1 (twinF_in t1))
  clear t1 b1 T1 EN
  go_wp2_with fail
  refine E1.out.mono ?_; rintro e w2 ⟨rfl, b2⟩
  have HT2 := Lib.hid (twinF_kept HT1.out b2)
  have HB2 := Lib.hid (bnext HB1.out b2)
  clear E1 b2 HT1 HB1
  go_wp2_with fail
  refine (RE.out _ HB2.out).mono ?_; rintro e w3 ⟨rfl, b3⟩
  have HT3 := Lib.hid (twinF_kept HT2.out b3)
  have HB3 := Lib.hid (bnext HB2.out b3)
  clear RE b3 HT2 HB2
  go_wp2_with fail
  refine (DE.out _).mono ?_; rintro e w4 ⟨vm, rfl, hm, b4⟩
  have HT4 := Lib.hid (twinF_kept HT3.out b4)
  have HB4 := Lib.hid (bnext HB3.out b4)
  have HM4 := Lib.hid hm
  have hsz4 := b4.size
  have hsz3 := HB3.out.size
  have HMQ : Hid (∀ q, vm.ownBlock = some q → w3.heap.size ≤ q ∧ q < w4.heap.size) := Lib.hid fun q hq => ⟨(own_ty hm hq).2.2, (own_ty hm hq).2.1⟩
  obtain ⟨am, cm, rfl, m1, m2, m3⟩ := shape_of hm
  have m2 : cm ≤ 9223372036854775807 := m2
  have M3 := Lib.hid m3
  clear b4 HT3 HB3 hm m3
  go_wp2_with fail
  refine (RD.out _).mono ?_; rintro e w5 ⟨vn, rfl, hn, b5⟩
  have HT5 := Lib.hid (twinF_kept HT4.out b5)
  have HB5 := Lib.hid (bnext HB4.out b5)
  have HM5 := Lib.hid (row_kept HM4.out b5)
  have HNQ : Hid (∀ q, vn.ownBlock = some q → w4.heap.size ≤ q) := Lib.hid fun q hq => (own_ty hn hq).2.2
  obtain ⟨an, cn, rfl, -⟩ := shape_of hn
  have HN5 := Lib.hid hn
  have SE1 := Lib.hid (SE.out M _ _ w5 (entsAt_in HM5.out) (entsAt_in hn))
  clear b5 HT4 HB4 HM4 RD hn
  go_wp2_with fail
  refine SE1.out.mono ?_; rintro e w6 ⟨rfl, b6⟩
  have HT6 := Lib.hid (twinF_kept HT5.out b6)
  have HB6 := Lib.hid (bnext HB5.out b6)
  have HM6 := Lib.hid (row_kept HM5.out b6)
  have HN6 := Lib.hid (row_kept HN5.out b6)
  clear b6 HT5 HB5 HM5 HN5 SE1
  go_wp2_with fail
  refine (LF.out _ _ _ HB6.out HT6.out).mono ?_; rintro e w7 ⟨rfl, b7⟩
  have HB7 := Lib.hid (bnext HB6.out b7)
  have HM7 := Lib.hid (row_kept HM6.out b7)
  have HN7 := Lib.hid (row_kept HN6.out b7)
  clear b7 HT6 HB6 HM6 HN6 LF
  go_wp2
  go_loopw [18] (fun p wr => ∃ (k : Nat) (xs : List Value), p = .int .i64 k ∧ k ≤ M.length ∧ wr.ownsRow w3.heap.size 31 3 (.slice am M.length cm) M.length xs ∧ w7.grownBy wr (Value.ownBlock (.slice am M.length cm)) ∧ Below w.heap.size w wr) (fun p _ => M.length - (intOf p).toNat)
  case atStart => exact ⟨0, _, rfl, Nat.zero_le _, HM7.out, grown_refl' _ _, HB7.out⟩
  case round =>
    obtain ⟨k, xs, rfl, hk, hx, hg, hb⟩ := hrel
    by_cases hlt : k < M.length
    · obtain ⟨g, rfl, hgB, hgl⟩ := M3.out (by omega)
      have hxl := hx.1
      have e1 : wr.cell? ⟨g, k * 3, none⟩ = some (xs[k * 3]'(by omega)) := (hx.cellAt _ (by omega)).trans (List.getElem?_eq_getElem _)
      have e2 : wr.cell? ⟨g, k * 3 + 1, none⟩ = some (xs[k * 3 + 1]'(by omega)) := (hx.cellAt _ (by omega)).trans (List.getElem?_eq_getElem _)
      have e3 : wr.cell? ⟨g, k * 3 + 2, none⟩ = some (xs[k * 3 + 2]'(by omega)) := (hx.cellAt _ (by omega)).trans (List.getElem?_eq_getElem _)
      have f1 := hx.frozenAt (k * 3)
      have f2 := hx.frozenAt (k * 3 + 1)
      have f3 := hx.frozenAt (k * 3 + 2)
      have s1' := (hx.stored (k * 3) (.int .i64 0)).1
      have s2' := (s1'.stored (k * 3 + 1) (.int .i64 0)).1
      have s3' := (s2'.stored (k * 3 + 2) (.int .i64 (-9))).1
      have hg3 := grown_set' (grown_set' (grown_set' hg (k * 3) (.int .i64 0)) (k * 3 + 1) (.int .i64 0)) (k * 3 + 2) (.int .i64 (-9))
      have hgw : w.heap.size ≤ g := by omega
      have hb3 := ((hb.setCell (p := ⟨g, k * 3, none⟩) hgw (.int .i64 0)).setCell (p := ⟨g, k * 3 + 1, none⟩) hgw (.int .i64 0)).setCell (p := ⟨g, k * 3 + 2, none⟩) hgw (.int .i64 (-9))
      generalize xs[k * 3]'(by omega) = x1 at *
      generalize xs[k * 3 + 1]'(by omega) = x2 at *
      generalize xs[k * 3 + 2]'(by omega) = x3 at *
      have HS3 := Lib.hid s3'
      have HG3 := Lib.hid hg3
      have HB3 := Lib.hid hb3
      clear hx s1' s2' s3' hg hb hg3 hb3
      go_wp2
      exact ⟨⟨k + 1, _, by go_num, by omega, HS3.out, HG3.out, HB3.out⟩, by simp [intOf]; omega⟩
    · obtain rfl : k = M.length := by omega
      have HN8 := Lib.hid (row_grown HN7.out hg fun q hq e => by
        have h1 := HNQ.out q hq
        have h2 := HMQ.out q e.symm
        omega)
      have HB8 := Lib.hid hb
      clear hx hg hb HM7 HN7
      go_wp2_with fail
      refine (DE.out _).mono ?_; rintro e w9 ⟨vr, rfl, hr, b9⟩
      have HN9 := Lib.hid (row_kept HN8.out b9)
      have HB9 := Lib.hid (bnext HB8.out b9)
      have SE2 := Lib.hid (SE.out M _ _ w9 (entsAt_in hr) (entsAt_in HN9.out))
      obtain ⟨ar, cr, rfl, -⟩ := shape_of hr
      clear hr b9 HN8 HB8
      go_wp2_with fail
      refine SE2.out.mono ?_; rintro e w10 ⟨rfl, b10⟩
      have HB10 := Lib.hid (bnext HB9.out b10)
      clear SE2 b10 HB9 HN9
      go_wp2_with fail
      refine (AL.out _).mono ?_; rintro e w11 ⟨rfl, b11⟩
      have HB11 := Lib.hid (bnext HB10.out b11)
      clear b11
      go_wp2
      go_ret
      exact ⟨rfl, HB11.out⟩
end Go.Proofs.YtcpoajjgmfglfaaGreat
