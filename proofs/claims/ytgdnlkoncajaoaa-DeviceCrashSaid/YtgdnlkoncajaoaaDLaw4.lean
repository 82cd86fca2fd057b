/- The walk of DeviceCrash. -/
import Derived.Test.YtgdnlkoncajaoaaDLaw2
namespace Go.Proofs.Ytgdnlkoncajaoaa
set_option linter.unusedVariables false
open Go.RowKit

theorem keep_all {S : St} (h : S.ok) (m : Nat) (hm : (pends S).length = m) : crashT S (List.replicate m true) = cat S.now S.n := cat_congr fun i hi => by
  unfold crashAt
  cases hp : S.pend i with
  | false => simp; exact (h.same i hi hp).symm
  | true =>
    have h2 : cntT S.pend i < m := by rw [← hm]; unfold pends; rw [pendL_length]; exact cntT_lt _ hi hp
    unfold keepOf; simp [h2]
theorem keep_none (S : St) : crashT S [] = cat S.was S.n := cat_congr fun i hi => by unfold crashAt keepOf; simp
theorem lt_of_cell' {w : World} {g j : Nat} {u : Value} (h : w.cell? ⟨g, j, none⟩ = some u) : g < w.heap.size := World.block_lt_of_cell? w ⟨g, j, none⟩ h
def trues (i : Nat) : Nat → Value := fun j => .bool (decide (j < i))
theorem row_of_cells {g n : Nat} {F : Nat → Value} {cs : List Value} {w : World} (h : CellsAt g n F w) (hn : cs.length = n) (hb : n ≤ 4096) (hF : ∀ j (hj : j < cs.length), cs[j] = F j) : RowIn 1 (.slice (some ⟨g, 0, none⟩) n n) n cs w :=
  ⟨by omega, some ⟨g, 0, none⟩, n, rfl, Nat.le_refl _, by unfold maxLen; omega, fun _ => ⟨g, 0, rfl, h.1, fun k u hk => by
    obtain ⟨h1, h2⟩ := List.getElem?_eq_some_iff.1 hk
    rw [Nat.zero_add, (h.2 k (by omega)).1, ← h2, hF k h1]⟩, fun h => by cases h⟩
set_option maxRecDepth 100000 in
set_option maxHeartbeats 16000000 in
theorem crash_walk (b : Nat) (hb0 : b < 256) (v kv : Value) (n : Nat) (A : Nat → ActD) (K : List Bool) (w : World) (h : ActsIn v n A w) (hk : RowIn 1 kv K.length (K.map Value.bool) w) :
    Calls Try.prog 6 #[.int .u8 (b : Int), v, kv] w fun e w' => e = .returned (.bool true) ∧ Below w.heap.size w w' := by
  have mixed : Try.prog.follows .mixedOrders = true := by kernel_rfl
  have G := Lib.hid (great_any v n A w h)
  have P := Lib.hid fun hn w' (h' : ActsIn v n A w') => played_any b hb0 v n A hn w' h'
  have AL := Lib.hid alive_any
  have HV := Lib.hid h
  have HK := Lib.hid hk
  obtain ⟨adk, capk, rfl, k1, k2, k3, -⟩ := hk.shape
  have K3 := Lib.hid k3
  obtain ⟨ad, cap, rfl, h1, h2, -⟩ := h.shape
  have KE := Lib.hid fun d lo hi S w h => kept_any (d := d) (lo := lo) (hi := hi) (S := S) w h
  have RA := Lib.hid fun d lo hi S w h => readall_any (d := d) (lo := lo) (hi := hi) (S := S) w h
  have BL := Lib.hid fun d lo hi S w h => blocks_any (d := d) (lo := lo) (hi := hi) (S := S) w h
  have PE := Lib.hid fun d lo hi S w h => pending_any (d := d) (lo := lo) (hi := hi) (S := S) w h
  have CR := Lib.hid fun d lo hi S K kv w h hk => crash_any (d := d) (lo := lo) (hi := hi) (S := S) K kv w h hk
  have SY := Lib.hid same_yes
  have BM := Lib.hid bools_made
  clear h hk k3
  go_enter Try.func6, Try.ntmps6
  go_wp2_with fail
  refine G.out.mono ?_; rintro e w1 ⟨g, rfl, hg, hb⟩
  clear G
  cases g with
  | true =>
    go_wp2
    go_ret
    exact ⟨rfl, hb⟩
  | false =>
    have hn := hg rfl
    have hw1 := hb.size
    clear hg
    by_cases hkl : 1000 < K.length
    · go_wp2
      go_ret
      exact ⟨rfl, hb⟩
    · have P1 := Lib.hid (P.out hn w1 (HV.out.kept hb))
      clear P HV hn
      go_wp2_with fail
      refine P1.out.mono ?_; rintro e w2 ⟨d, hi, S, rfl, hd, hSn, hSa, b⟩
      have hb := bnext hb b
      generalize hlq : w1.heap.size = lo at *
      clear b P1 hlq hSa hSn
      have hok := hd.ok
      have HOK := Lib.hid hok
      have hn1 := hok.lo
      have hn3 := hok.hi
      clear hok
      go_wp2_with fail
      refine (PE.out _ _ _ _ _ hd).mono ?_; rintro e w3 ⟨vp, rfl, hv, b⟩
      have hd := hd.kept1 b
      have hb := bnext hb b
      clear b
      have HP := Lib.hid (natsAt_in hv)
      obtain ⟨adp, capp, rfl, p1, p2, p3⟩ := shape_of hv
      have p2 : capp ≤ 9223372036854775807 := p2
      have hpl : (pends S).length ≤ S.n := pendL_len _ _
      have HPV := Lib.hid hv
      have HP3 := Lib.hid p3
      clear hv p3
      go_wp2_with fail
      refine (RA.out _ _ _ _ _ hd).mono ?_; rintro e w' ⟨rfl, rfl⟩
      go_wp2_with fail
      refine (KE.out _ _ _ _ _ hd).mono ?_; rintro e w4 ⟨rfl, b⟩
      have HP := Lib.hid (HP.out.kept b)
      have HPV := Lib.hid (row_kept HPV.out b)
      have hs34 := b.size
      have hd := hd.kept1 b
      have hb := bnext hb b
      clear b
      have hm := BM.out (pends S).length (by omega) w4
      have hc := CellsAt.alloc_new w4 (madeCells #[.bool false] (pends S).length) 4 (pends S).length (trues 0) fun j hj => madeCells_at _ _ _ hj
      have HD4 := Lib.hid hd
      have HB4 := Lib.hid hb
      have hz := Zone.of_below (balloc1 w4 (.cells (madeCells #[.bool false] (pends S).length) 4)) w4.heap.size (w4.heap.size + 1)
      obtain ⟨w5, hw5⟩ : ∃ w5, w4.alloc (.cells (madeCells #[.bool false] (pends S).length) 4) = w5 := ⟨_, rfl⟩
      rw [hw5] at hc hz
      have HZ := Lib.hid hz
      have HC := Lib.hid hc
      have htop := hd.top
      have hs4 := hb.size
      clear hz hc hd hb BM
      go_wp2
      go_loopw [12] (fun q wr => ∃ i : Nat, q = .int .i64 i ∧ i ≤ (pends S).length ∧ CellsAt w4.heap.size (pends S).length (trues i) wr ∧ Zone w4.heap.size (w4.heap.size + 1) w4 wr) (fun q _ => (pends S).length - (intOf q).toNat)
      case atStart => exact ⟨0, rfl, Nat.zero_le _, HC.out, HZ.out⟩
      case round =>
        clear HC HZ hw5
        obtain ⟨i, rfl, hiI, hc, hz⟩ := hrel
        by_cases hlt : i < (pends S).length
        · obtain ⟨q1, q2⟩ := hc.2 i hlt
          have HC : Hid (CellsAt w4.heap.size (pends S).length (trues (i + 1)) (wr.setCell ⟨w4.heap.size, i, none⟩ (.bool true))) := Lib.hid ((hc.set hlt (.bool true)).congr fun j hj => by
            unfold trues
            by_cases e : j = i
            · subst e; rw [upd_same, decide_eq_true (Nat.lt_succ_self j)]
            · rw [upd_other _ e]
              by_cases e2 : j < i
              · rw [decide_eq_true e2, decide_eq_true (by omega)]
              · rw [decide_eq_false e2, decide_eq_false (by omega)])
          have HZ := Lib.hid (hz.set (p := ⟨w4.heap.size, i, none⟩) (Nat.le_refl _) (Nat.lt_succ_self _) (.bool true))
          unfold trues at q1
          clear hc hz
          go_wp2
          exact ⟨⟨i + 1, by go_num, by omega, HC.out, HZ.out⟩, by simp [intOf]; omega⟩
        · obtain rfl : i = (pends S).length := by omega
          have hd := HD4.out.kept hz (.inl htop)
          have hb := HB4.out.trans (hz.below hs4 hs4)
          have hrow := row_of_cells (cs := (List.replicate (pends S).length true).map Value.bool) hc (by simp) (by omega) (fun j hj => by simp [trues]; simpa using hj)
          have HR : RowIn 1 (.slice (some ⟨w4.heap.size, 0, none⟩) (pends S).length (pends S).length) (List.replicate (pends S).length true).length ((List.replicate (pends S).length true).map Value.bool) wr := by rw [List.length_replicate]; exact hrow
          have hb4 : Below w4.heap.size w4 wr := hz.below (Nat.le_refl _) (Nat.le_refl _)
          have HP5 := Lib.hid (HP.out.kept hb4)
          have HPV5 := Lib.hid (row_kept HPV.out hb4)
          have HRR := Lib.hid HR
          have C1 := Lib.hid (CR.out _ _ _ _ K _ _ hd (HK.out.kept hb))
          clear hc hz hrow HR hb4 HP HPV HB4 HD4
          go_wp2_with fail
          refine C1.out.mono ?_; rintro e w6 ⟨rfl, b⟩
          have C2 := CR.out _ _ _ _ _ _ _ (hd.kept1 b) (HRR.out.kept b)
          rw [keep_all HOK.out _ rfl] at C2
          have C2 := Lib.hid C2
          have HP6 := Lib.hid (HP5.out.kept b)
          have HPV6 := Lib.hid (row_kept HPV5.out b)
          have hd := hd.kept1 b
          have hb := bnext hb b
          clear b
          clear C1 HRR HP5 HPV5
          have se1 : (crashT S K).size = S.n * 128 := crashT_size HOK.out K
          have se2 : (cat S.now S.n).size = S.n * 128 := cat_size fun i hi => HOK.out.now i hi
          have se3 : (cat S.was S.n).size = S.n * 128 := cat_size fun i hi => HOK.out.was i hi
          have HE1 : Hid (∀ i, i < S.n → (crashT S K).extract (i * 128) ((i + 1) * 128) = crashAt S.now S.was S.pend (keepOf K) i) := Lib.hid fun i hi => cat_at (fun j hj => crash_size (HOK.out.now j hj) (HOK.out.was j hj)) hi
          have HE2 : Hid (∀ i, i < S.n → (cat S.now S.n).extract (i * 128) ((i + 1) * 128) = S.now i) := Lib.hid fun i hi => cat_at (fun j hj => HOK.out.now j hj) hi
          have HE3 : Hid (∀ i, i < S.n → (cat S.was S.n).extract (i * 128) ((i + 1) * 128) = S.was i) := Lib.hid fun i hi => cat_at (fun j hj => HOK.out.was j hj) hi
          have CN := fun w h => CR.out d lo hi S [] (.slice none 0 0) w h (RowIn.nil 1 w)
          rw [keep_none] at CN
          have CN := Lib.hid CN
          have KE1 := Lib.hid fun w h => KE.out d lo hi S w h
          have RA1 := Lib.hid fun w h => RA.out d lo hi S w h
          generalize crashT S K = SS at *
          generalize cat S.now S.n = NOW at *
          generalize cat S.was S.n = WAS at *
          clear CR KE RA
          go_wp2_with fail
          refine C2.out.mono ?_; rintro e w7 ⟨rfl, b⟩
          have HP7 := Lib.hid (HP6.out.kept b)
          have HPV7 := Lib.hid (row_kept HPV6.out b)
          have hd := hd.kept1 b
          have hb := bnext hb b
          clear b
          clear C2 HP6 HPV6
          go_wp2_with fail
          refine (CN.out _ hd).mono ?_; rintro e w8 ⟨rfl, b⟩
          have HP8 := Lib.hid (HP7.out.kept b)
          have HPV8 := Lib.hid (row_kept HPV7.out b)
          have hd := hd.kept1 b
          have hb := bnext hb b
          clear b
          clear CN HP7 HPV7
          have HD8 := Lib.hid hd
          have HB8 := Lib.hid hb
          have B8 := Lib.hid fun w h => BL.out d lo hi S w h
          have hs8 := hb.size
          clear hd hb BL
          go_wp2
          go_loopw [14, 15] (fun c q wr => ∃ i : Nat, q = .int .i64 i ∧ i ≤ S.n ∧ c = .int .i64 ((cntT S.pend i : Nat) : Int) ∧ Below w8.heap.size w8 wr) (fun _ q _ => S.n - (intOf q).toNat)
          case atStart => exact ⟨0, rfl, Nat.zero_le _, rfl, Below.refl _ _⟩
          case round =>
            obtain ⟨i, rfl, hiI, rfl, hbr⟩ := hrel
            have hd := HD8.out.kept1 hbr
            have BL := Lib.hid (B8.out _ hd)
            by_cases hlt : i < S.n
            · have hle : ((i : Int) + 1) * 128 ≤ (S.n : Int) * 128 := by omega
              have hle2 : (i + 1) * 128 ≤ S.n * 128 := by omega
              have hE1 := HE1.out i hlt
              have hE2 := HE2.out i hlt
              have hE3 := HE3.out i hlt
              have HSM := Lib.hid (HOK.out.same i hlt)
              have HCA : Hid (crashAt S.now S.was S.pend (keepOf K) i = if S.pend i && keepOf K (cntT S.pend i) then S.now i else S.was i) := Lib.hid rfl
              have HCN : Hid (cntT S.pend (i + 1) = cntT S.pend i + (if S.pend i then 1 else 0)) := Lib.hid rfl
              have hcl := cntT_le S.pend i
              have HAT : Hid (S.pend i = true → (pends S)[cntT S.pend i]? = some i) := Lib.hid fun hp => pendL_at S.pend hlt hp
              have HNT : Hid (S.pend i = false → (pends S)[cntT S.pend i]? ≠ some i) := Lib.hid fun hp => pendL_not S.pend hlt hp
              clear hd
              cases hp : S.pend i with
              | true =>
                rw [hp] at HCA HCN HAT
                have hat := HAT.out rfl
                obtain ⟨hc1, hc2⟩ := List.getElem?_eq_some_iff.1 hat
                obtain ⟨gp, rfl, hgp1, hgp2⟩ := HP3.out (by omega)
                have q1 : wr.cell? ⟨gp, cntT S.pend i, none⟩ = some (.int .i64 (i : Int)) := by
                  have h1 := HPV8.out.cellAt (cntT S.pend i) (by omega)
                  rw [List.getElem?_map, hat] at h1
                  exact (World.cell?_of_block (a := ⟨gp, cntT S.pend i, none⟩) (hbr.block gp (lt_of_cell' h1))).trans h1
                have hcn : Hid (cntT S.pend (i + 1) = cntT S.pend i + 1) := Lib.hid (by rw [HCN.out]; rfl)
                by_cases hck : cntT S.pend i < K.length
                · obtain ⟨gk, ok, rfl, hgk, hkc⟩ := K3.out (by rw [List.length_map]; omega)
                  have q2 : wr.cell? ⟨gk, ok + cntT S.pend i, none⟩ = some (.bool K[cntT S.pend i]) := by
                    have h1 := hkc (cntT S.pend i) (.bool K[cntT S.pend i]) (by rw [List.getElem?_map, List.getElem?_eq_getElem hck]; rfl)
                    exact (((HB8.out.trans (hbr.mono hs8)).cell (p := ⟨gk, ok + cntT S.pend i, none⟩) hgk).trans h1)
                  have hkp := keepOf_lt hck
                  generalize K[cntT S.pend i] = kb at *
                  cases kb with
                  | true =>
                    have hE4 : crashAt S.now S.was S.pend (keepOf K) i = S.now i := by rw [HCA.out, hkp]; rfl
                    rw [hE4] at hE1
                    generalize cntT S.pend i = c at *
                    generalize S.now i = tn at *
                    generalize S.was i = tw at *
                    clear HCA HCN HAT HNT HSM hat hkc hE4 hkp hp hc2
                    go_wp2_with fail
                    refine BL.out.mono ?_; rintro e w' ⟨rfl, rfl⟩
                    go_wp2
                    go_quiet (fail)
                    go_wp2
                    exact ⟨⟨i + 1, by go_num, by omega, by rw [hcn.out]; go_num, below_drewN hbr _⟩, by simp [intOf]; omega⟩
                  | false =>
                    have hE4 : crashAt S.now S.was S.pend (keepOf K) i = S.was i := by rw [HCA.out, hkp]; rfl
                    rw [hE4] at hE1
                    generalize cntT S.pend i = c at *
                    generalize S.now i = tn at *
                    generalize S.was i = tw at *
                    clear HCA HCN HAT HNT HSM hat hkc hE4 hkp hp hc2
                    go_wp2_with fail
                    refine BL.out.mono ?_; rintro e w' ⟨rfl, rfl⟩
                    go_wp2
                    go_quiet (fail)
                    go_wp2
                    exact ⟨⟨i + 1, by go_num, by omega, by rw [hcn.out]; go_num, below_drewN hbr _⟩, by simp [intOf]; omega⟩
                · have hkp := keepOf_ge (K := K) (i := cntT S.pend i) (by omega)
                  have hE4 : crashAt S.now S.was S.pend (keepOf K) i = S.was i := by rw [HCA.out, hkp]; rfl
                  rw [hE4] at hE1
                  generalize cntT S.pend i = c at *
                  generalize S.now i = tn at *
                  generalize S.was i = tw at *
                  clear HCA HCN HAT HNT HSM hat hE4 hkp hp hc2
                  go_wp2_with fail
                  refine BL.out.mono ?_; rintro e w' ⟨rfl, rfl⟩
                  go_wp2
                  go_quiet (fail)
                  go_wp2
                  exact ⟨⟨i + 1, by go_num, by omega, by rw [hcn.out]; go_num, below_drewN hbr _⟩, by simp [intOf]; omega⟩
              | false =>
                rw [hp] at HCA HCN HNT
                have hnt := HNT.out rfl
                have hsm := HSM.out hp
                have hcn : Hid (cntT S.pend (i + 1) = cntT S.pend i) := Lib.hid (by rw [HCN.out]; rfl)
                have hE4 : crashAt S.now S.was S.pend (keepOf K) i = S.was i := by rw [HCA.out]; rfl
                rw [hE4] at hE1
                rw [hsm] at hE2
                by_cases hc1 : cntT S.pend i < (pends S).length
                · obtain ⟨gp, rfl, hgp1, hgp2⟩ := HP3.out (by omega)
                  have hne : (pends S)[cntT S.pend i] ≠ i := fun e => hnt (by rw [List.getElem?_eq_getElem hc1, e])
                  have q1 : wr.cell? ⟨gp, cntT S.pend i, none⟩ = some (.int .i64 ((pends S)[cntT S.pend i] : Int)) := by
                    have h1 := HPV8.out.cellAt (cntT S.pend i) (by omega)
                    rw [List.getElem?_map, List.getElem?_eq_getElem hc1] at h1
                    exact (World.cell?_of_block (a := ⟨gp, cntT S.pend i, none⟩) (hbr.block gp (lt_of_cell' h1))).trans h1
                  have hne2 : (((pends S)[cntT S.pend i] : Int) == (i : Int)) = false := by rw [beq_eq_false_iff_ne]; omega
                  generalize (pends S)[cntT S.pend i] = z at *
                  generalize cntT S.pend i = c at *
                  generalize S.now i = tn at *
                  generalize S.was i = tw at *
                  clear HCA HCN HAT HNT HSM hnt hE4 hp hsm hne
                  go_wp2_with fail
                  refine BL.out.mono ?_; rintro e w' ⟨rfl, rfl⟩
                  go_wp2
                  go_quiet (fail)
                  go_wp2
                  exact ⟨⟨i + 1, by go_num, by omega, by rw [hcn.out], below_drewN hbr _⟩, by simp [intOf]; omega⟩
                · generalize cntT S.pend i = c at *
                  generalize S.now i = tn at *
                  generalize S.was i = tw at *
                  clear HCA HCN HAT HNT HSM hnt hE4 hp hsm
                  go_wp2_with fail
                  refine BL.out.mono ?_; rintro e w' ⟨rfl, rfl⟩
                  go_wp2
                  go_quiet (fail)
                  go_wp2
                  exact ⟨⟨i + 1, by go_num, by omega, by rw [hcn.out], below_drewN hbr _⟩, by simp [intOf]; omega⟩
            · obtain rfl : i = S.n := by omega
              have hcl : cntT S.pend S.n = (pends S).length := (pendL_length S.pend S.n).symm
              rw [hcl]
              have hb := HB8.out.trans (hbr.mono hs8)
              have HP9 := Lib.hid (HP8.out.kept hbr)
              clear K3 HP8 HPV8 hbr HE1 HE2 HE3 hcl
              go_wp2_with fail
              refine BL.out.mono ?_; rintro e w' ⟨rfl, rfl⟩
              go_wp2_with fail
              refine (RA1.out _ hd).mono ?_; rintro e w' ⟨rfl, rfl⟩
              go_wp2_with fail
              refine (KE1.out _ hd).mono ?_; rintro e w9 ⟨rfl, b⟩
              have HP10 := Lib.hid (HP9.out.kept b)
              have hd := hd.kept1 b
              have hb := bnext hb b
              clear b
              go_wp2_with fail
              refine (PE.out _ _ _ _ _ hd).mono ?_; rintro e w10 ⟨vq, rfl, hv, b⟩
              have SS1 := Lib.hid (SY.out _ _ (pends S) (by omega) _ (natsAt_in hv) (HP10.out.kept b))
              have hd := hd.kept1 b
              have hb := bnext hb b
              clear b
              clear hv PE SY HP10 HP9 RA1 KE1
              go_wp2_with fail
              refine SS1.out.mono ?_; rintro e w11 ⟨rfl, b⟩
              have hd := hd.kept1 b
              have hb := bnext hb b
              clear b
              clear hd SS1
              go_wp2_with fail
              refine (AL.out _).mono ?_; rintro e w12 ⟨rfl, b⟩
              have hb := bnext hb b
              clear b
              go_wp2
              go_ret
              exact ⟨rfl, hb⟩
end Go.Proofs.Ytgdnlkoncajaoaa
