/- The walks of DeviceFlush, DeviceTwo. -/
import Derived.Test.YtgdnlkoncajaoaaDLaw1
namespace Go.Proofs.Ytgdnlkoncajaoaa
set_option linter.unusedVariables false
open Go.RowKit

theorem crashT_size {S : St} (h : S.ok) (K : List Bool) : (crashT S K).size = S.n * 128 := cat_size fun i hi => crash_size (h.now i hi) (h.was i hi)
theorem flushed_crash (S : St) (K : List Bool) : crashT S.flushed K = cat S.now S.n := cat_congr fun i _ => by
  unfold crashAt St.flushed; simp
theorem flushed_pends (S : St) : pends S.flushed = [] := pendL_none fun _ _ => rfl
set_option maxRecDepth 100000 in
set_option maxHeartbeats 8000000 in
theorem flush_walk (b : Nat) (hb0 : b < 256) (v kv : Value) (n : Nat) (A : Nat → ActD) (K : List Bool) (w : World) (h : ActsIn v n A w) (hk : RowIn 1 kv K.length (K.map Value.bool) w) :
    Calls Try.prog 7 #[.int .u8 (b : Int), v, kv] w fun e w' => e = .returned (.bool true) ∧ Below w.heap.size w w' := by
  have G := Lib.hid (great_any v n A w h)
  have P := Lib.hid fun hn w' (h' : ActsIn v n A w') => played_any b hb0 v n A hn w' h'
  have AL := Lib.hid alive_any
  have HV := Lib.hid h
  have HK := Lib.hid hk
  obtain ⟨adk, capk, rfl, k1, k2, -, -⟩ := hk.shape
  obtain ⟨ad, cap, rfl, h1, h2, -⟩ := h.shape
  have KE := Lib.hid fun d lo hi S w h => kept_any (d := d) (lo := lo) (hi := hi) (S := S) w h
  have RA := Lib.hid fun d lo hi S w h => readall_any (d := d) (lo := lo) (hi := hi) (S := S) w h
  have AC := Lib.hid fun d lo hi S w h => acts_any (d := d) (lo := lo) (hi := hi) (S := S) w h
  have DE := Lib.hid fun d lo hi S w h => dead_any (d := d) (lo := lo) (hi := hi) (S := S) w h
  have PE := Lib.hid fun d lo hi S w h => pending_any (d := d) (lo := lo) (hi := hi) (S := S) w h
  have CR := Lib.hid fun d lo hi S kv w h hk => crash_any (d := d) (lo := lo) (hi := hi) (S := S) K kv w h hk
  clear h hk
  go_enter Try.func7, Try.ntmps7
  go_wp2_with fail
  refine G.out.mono ?_; rintro e w1 ⟨g, rfl, hg, hb⟩
  clear G
  cases g with
  | true =>
    go_wp2
    go_ret
    exact ⟨rfl, hb⟩
  | false =>
    have hn := hg rfl
    have hw1 := hb.size
    clear hg
    by_cases hkl : 1000 < K.length
    · go_wp2
      go_ret
      exact ⟨rfl, hb⟩
    · have P1 := Lib.hid (P.out hn w1 (HV.out.kept hb))
      clear P HV hn
      go_wp2_with fail
      refine P1.out.mono ?_; rintro e w2 ⟨d, hi, S, rfl, hd, hSn, hSa, b⟩
      have hb := bnext hb b
      have hlo := b.size
      generalize hlq : w1.heap.size = lo at *
      have hlw : w.heap.size ≤ lo := hw1
      clear b P1 hlq
      have HOK := Lib.hid hd.ok
      have FL := Lib.hid fun w h => flush_any (d := d) (lo := lo) (hi := hi) (S := S) (by omega) w h
      clear hSn
      go_wp2_with fail
      refine (RA.out _ _ _ _ _ hd).mono ?_; rintro e w' ⟨rfl, rfl⟩
      go_wp2_with fail
      refine (KE.out _ _ _ _ _ hd).mono ?_; rintro e w3 ⟨rfl, b⟩
      have hd := hd.kept1 b
      have hb := bnext hb b
      clear b
      go_wp2_with fail
      refine (AC.out _ _ _ _ _ hd).mono ?_; rintro e w' ⟨rfl, rfl⟩
      go_wp2_with fail
      refine (DE.out _ _ _ _ _ hd).mono ?_; rintro e w' ⟨rfl, rfl⟩
      have FL1 := FL.out _ hd
      by_cases h0 : S.left = 0
      · have e1 : isDead S = true := decide_eq_true h0
        have e2 : fCode S = 61 := by unfold fCode; rw [if_pos h0]
        have e3 : fSt S = S := by unfold fSt; rw [if_pos h0]
        rw [e2, e3] at FL1
        have FL1 := Lib.hid FL1
        rw [e1]
        clear e1 e2 e3 h0 FL
        go_wp2_with fail
        refine FL1.out.mono ?_; rintro e w4 ⟨rfl, hd, z⟩
        have hb := hb.trans (z.below hb.size hlw)
        clear z FL1
        go_wp2_with fail
        refine (KE.out _ _ _ _ _ hd).mono ?_; rintro e w5 ⟨rfl, b⟩
        have hd := hd.kept1 b
        have hb := bnext hb b
        clear b
        go_wp2_with fail
        refine (RA.out _ _ _ _ _ hd).mono ?_; rintro e w' ⟨rfl, rfl⟩
        go_wp2_with fail
        refine (AC.out _ _ _ _ _ hd).mono ?_; rintro e w' ⟨rfl, rfl⟩
        clear hd
        go_wp2_with fail
        refine (AL.out _).mono ?_; rintro e w6 ⟨rfl, b⟩
        have hb := bnext hb b
        clear b
        go_wp2
        go_ret
        exact ⟨rfl, hb⟩
      · have e1 : isDead S = false := decide_eq_false h0
        have e2 : fCode S = 0 := by unfold fCode; rw [if_neg h0]
        have e3 : fSt S = S.flushed := by unfold fSt; rw [if_neg h0]
        rw [e2, e3] at FL1
        have FL1 := Lib.hid FL1
        rw [e1]
        clear e1 e2 e3 h0 FL
        have HBK := Lib.hid hb
        go_wp2_with fail
        refine FL1.out.mono ?_; rintro e w4 ⟨rfl, hd, z⟩
        have hb := hb.trans (z.below hb.size hlw)
        have PE1 := PE.out d lo hi S.flushed w4 hd
        rw [flushed_pends] at PE1
        have PE1 := Lib.hid PE1
        have KE1 := Lib.hid fun w h => KE.out d lo hi S.flushed w h
        have RA1 := Lib.hid fun w h => RA.out d lo hi S.flushed w h
        have AC1 := Lib.hid fun w h => AC.out d lo hi S.flushed w h
        have CR1 := fun kv w h => CR.out d lo hi S.flushed kv w h
        rw [flushed_crash] at CR1
        have CR1 := Lib.hid CR1
        have x1 : ((S.flushed.acts : Nat) : Int) = (S.acts : Int) + 1 := by show ((S.acts + 1 : Nat) : Int) = _; omega
        have x2 : cat S.flushed.was S.flushed.n = cat S.now S.n := rfl
        have x3 : cat S.flushed.now S.flushed.n = cat S.now S.n := rfl
        rw [x1] at AC1
        rw [x2] at KE1
        rw [x3] at RA1
        clear z FL1 x1 x2 x3 KE RA AC CR PE
        go_wp2_with fail
        refine PE1.out.mono ?_; rintro e w5 ⟨v, rfl, hv, b⟩
        obtain ⟨adv, capv, rfl, -, -, -⟩ := shape_of hv
        have hd := hd.kept1 b
        have hb := bnext hb b
        clear b
        clear hv PE1
        go_wp2_with fail
        refine (KE1.out _ hd).mono ?_; rintro e w6 ⟨rfl, b⟩
        have hd := hd.kept1 b
        have hb := bnext hb b
        clear b
        go_wp2_with fail
        refine (RA1.out _ hd).mono ?_; rintro e w' ⟨rfl, rfl⟩
        have C := Lib.hid (CR1.out _ _ hd (HK.out.kept hb))
        clear KE1 RA1 CR1
        go_wp2_with fail
        refine C.out.mono ?_; rintro e w7 ⟨rfl, b⟩
        have hd := hd.kept1 b
        have hb := bnext hb b
        clear b
        go_wp2_with fail
        refine (AC1.out _ hd).mono ?_; rintro e w' ⟨rfl, rfl⟩
        clear hd C AC1
        go_wp2_with fail
        refine (AL.out _).mono ?_; rintro e w8 ⟨rfl, b⟩
        have hb := bnext hb b
        clear b
        go_wp2
        go_ret
        exact ⟨rfl, hb⟩
end Go.Proofs.Ytgdnlkoncajaoaa
