/- The program's Put. -/
import Derived.Test.YtgcbfiecgiijkaaTBlocks
import Derived.Test.YtgcbfiecgiijkaaStepApp
namespace Go.Proofs.Ytgcbfiecgiijkaa
set_option linter.unusedVariables false
set_option linter.unusedSimpArgs false
open Go.RowKit Go.Shelf

theorem one_in {g : Nat} {x : Ent} {T : TypeId} {W : World} (h : Blk g (entC x) T W) : EntsIn (.slice (some ⟨g, 0, none⟩) 1 1) [x] W := by
  refine ⟨rfl, _, _, rfl, Nat.le_refl _, by unfold maxLen; omega, fun _ => ⟨g, 0, rfl, h.lt, fun k u hk => ?_⟩, fun h => by cases h⟩
  rw [Nat.zero_add, h.cell k]
  simpa [cellsE] using hk
theorem concat3_any (A B C : List Ent) (hl : (A ++ (B ++ C)).length ≤ 4000) (va vb vc : Value) (g : Nat) (T : TypeId) (w : World) (h : Blk g #[va, vb, vc] T w) (hA : EntsIn va A w) (hB : EntsIn vb B w) (hC : EntsIn vc C w) :
    Calls Try.prog 44 #[.slice (some ⟨g, 0, none⟩) 3 3] w fun e w' => ∃ v, e = .returned v ∧ ExtsAt w.heap.size v (A ++ (B ++ C)) w' ∧ Below w.heap.size w w' := by
  have e : catE (fun j => match j with | 0 => A | 1 => B | _ => C) 3 = A ++ (B ++ C) := by simp [catE]
  have := xconcat_any 3 (by omega) (fun j => match j with | 0 => va | 1 => vb | _ => vc) (fun j => match j with | 0 => A | 1 => B | _ => C) (by rw [e]; exact hl) g w h.lt
    (fun j hj => by match j, hj with
      | 0, _ => exact h.cell 0
      | 1, _ => exact h.cell 1
      | 2, _ => exact h.cell 2)
    (fun j hj => by match j, hj with
      | 0, _ => exact hA
      | 1, _ => exact hB
      | 2, _ => exact hC)
  rw [e] at this
  exact this
theorem concat2_any (A B : List Ent) (hl : (A ++ B).length ≤ 4000) (va vb : Value) (g : Nat) (T : TypeId) (w : World) (h : Blk g #[va, vb] T w) (hA : EntsIn va A w) (hB : EntsIn vb B w) :
    Calls Try.prog 44 #[.slice (some ⟨g, 0, none⟩) 2 2] w fun e w' => ∃ v, e = .returned v ∧ ExtsAt w.heap.size v (A ++ B) w' ∧ Below w.heap.size w w' := by
  have e : catE (fun j => match j with | 0 => A | _ => B) 2 = A ++ B := by simp [catE]
  have := xconcat_any 2 (by omega) (fun j => match j with | 0 => va | _ => vb) (fun j => match j with | 0 => A | _ => B) (by rw [e]; exact hl) g w h.lt
    (fun j hj => by match j, hj with
      | 0, _ => exact h.cell 0
      | 1, _ => exact h.cell 1)
    (fun j hj => by match j, hj with
      | 0, _ => exact hA
      | 1, _ => exact hB)
  rw [e] at this
  exact this
def PutOk (l : List Ent) (x : Ent) : Prop := RowOk true l ∧ EntOk true x
instance (l : List Ent) (x : Ent) : Decidable (PutOk l x) := by unfold PutOk; infer_instance
def putO (l : List Ent) (x : Ent) : List Ent := if PutOk l x then putX l x else []
def putF (l : List Ent) (x : Ent) : List (Int × Int) := if PutOk l x then freedX l (putX l x) else []
def putE (l : List Ent) (x : Ent) : Int := if PutOk l x then 0 else 2
theorem put_yes {l : List Ent} {x : Ent} (h : PutOk l x) : putO l x = putX l x ∧ putF l x = freedX l (putX l x) ∧ putE l x = 0 := by unfold putO putF putE; rw [if_pos h, if_pos h, if_pos h]; exact ⟨rfl, rfl, rfl⟩
theorem put_no {l : List Ent} {x : Ent} (h : ¬ PutOk l x) : putO l x = [] ∧ putF l x = [] ∧ putE l x = 2 := by unfold putO putF putE; rw [if_neg h, if_neg h, if_neg h]; exact ⟨rfl, rfl, rfl⟩
set_option maxRecDepth 100000 in
set_option maxHeartbeats 8000000 in
theorem xput_any (l : List Ent) (hf : fitE l) (hl : l.length ≤ 1000) (x : Ent) (hx : I64 x.len) (v : Value) (w : World) (hv : EntsIn v l w) :
    Calls Try.prog 25 #[v, entV x] w fun e w' => ∃ vo vf, e = .returned (.tuple #[vo, vf, .int .i64 (putE l x)]) ∧ ExtsAt w.heap.size vo (putO l x) w' ∧ RunsAt w.heap.size vf (putF l x) w' ∧ Below w.heap.size w w' := by
  have mixed : Try.prog.follows .mixedOrders = true := by kernel_rfl
  have C := fun w hv => xcheck_any l hf v w hv
  have V := fun w => xvalid_any x hx w
  have hb0 := balloc1 w (.cells (entC x) 37)
  have HV := Lib.hid (hv.kept hb0)
  have HX := Lib.hid (Blk.new (entC x) 37 w)
  by_cases h1 : RowOk true l
  · rw [decide_eq_true h1] at C
    have C := Lib.hid C
    by_cases h2 : EntOk true x
    · rw [decide_eq_true h2] at V
      have V := Lib.hid V
      obtain ⟨e1, e2, e3⟩ := put_yes ⟨h1, h2⟩
      rw [e1, e2, e3]
      have hr := (row_rise l).1 h1
      have hok : ∀ e ∈ l, EntOk true e := fun e he => (hr.mem e he).1
      have hk := (entT x).1 h2
      have hp := put_rise hr h2
      have HPL : (putX l x).length ≤ 4000 := by have := change_len l x.log (x.log + x.len) [x]; simp only [List.length_singleton] at this; unfold putX; omega
      have W1 := Lib.hid fun W hv => xwithin_any l hok (by omega) 0 x.log v W hv
      have W2 := Lib.hid fun W hv => xwithin_any l hok (by omega) (x.log + x.len) 2048 v W hv
      have W3 := Lib.hid fun W hv => xwithin_any l hok (by omega) x.log (x.log + x.len) v W hv
      have E := Lib.hid fun W => xend_any x ⟨by omega, by omega⟩ W
      have CC := Lib.hid fun (W : World) (g : Nat) (va vb vc : Value) (h : Blk g #[va, vb, vc] 22 W) ha hb hc => concat3_any (keep l 0 x.log) [x] (keep l (x.log + x.len) 2048) HPL va vb vc g 22 W h ha hb hc
      have hkl : (keep l x.log (x.log + x.len)).length ≤ 4000 := by have := keep_len l x.log (x.log + x.len); omega
      have L := fun v u W hv hu => xlost_any (keep l x.log (x.log + x.len)) (putX l x) ((keep_rise hr _ _).1.down (by omega)) hp hkl HPL v u W hv hu
      have hlo := lostX_is hr (a := x.log) (b := x.log + x.len) (by omega) (by omega) (one_rise h2).1 (one_rise h2).2
      rw [show change l x.log (x.log + x.len) [x] = putX l x from rfl] at hlo
      rw [hlo] at L
      have L := Lib.hid L
      rw [show keep l 0 x.log ++ ([x] ++ keep l (x.log + x.len) 2048) = putX l x from rfl] at CC
      generalize putX l x = O at *
      generalize freedX l O = F at *
      generalize keep l 0 x.log = KA at *
      generalize keep l (x.log + x.len) 2048 = KB at *
      generalize keep l x.log (x.log + x.len) = KM at *
      clear h1 h2 hr hok hk hp HPL hkl hlo e1 e2 e3
      obtain ⟨ad, cap, rfl, -⟩ := entsIn_cells hv
      obtain ⟨xa, xp, xz⟩ := x
      dsimp only at *
      go_enter Try.func25, Try.ntmps25
      go_wp2_with fail
      refine (C.out _ HV.out).mono ?_; rintro e w1 ⟨rfl, b1⟩
      have hb1 := bnext hb0 b1
      have HV := Lib.hid (HV.out.kept b1)
      have HX := Lib.hid (HX.out.kept1 b1)
      have x0 := HX.out.cell 0
      have x1 := HX.out.cell 1
      have x2 := HX.out.cell 2
      simp only [List.getElem?_toArray, List.getElem?_cons_zero, List.getElem?_cons_succ] at x0 x1 x2
      clear b1 C
      go_wp2_with fail
      refine (V.out _).mono ?_; rintro e w2 ⟨rfl, b2⟩
      have hb2 := bnext hb1 b2
      have HV := Lib.hid (HV.out.kept b2)
      have HX := Lib.hid (HX.out.kept1 b2)
      clear b2 x0 x1 x2 V hb1
      have HK : Hid (∀ W, Below w2.heap.size w2 W → W.cell? ⟨w.heap.size, 0, none⟩ = some (.int .i64 xa) ∧ W.cell? ⟨w.heap.size, 1, none⟩ = some (.int .i64 xp) ∧ W.cell? ⟨w.heap.size, 2, none⟩ = some (.int .i64 xz)) := Lib.hid fun W b => ⟨(HX.out.kept1 b).cell 0, (HX.out.kept1 b).cell 1, (HX.out.kept1 b).cell 2⟩
      have hqd : Below w2.heap.size w2 w2.drew := (Below.refl _ _).drew
      have HV := Lib.hid (HV.out.kept hqd)
      go_wp2
      refine wp_region_held_drew (S := fun w9 => w9.cell? ⟨w.heap.size, 0, none⟩ = some (.int .i64 xa) ∧ w9.cell? ⟨w.heap.size, 1, none⟩ = some (.int .i64 xp) ∧ w9.cell? ⟨w.heap.size, 2, none⟩ = some (.int .i64 xz)) mixed (HK.out _ hqd) (fun hHeld => ?_)
      generalize w2.drew = wd at *
      refine wpAnyH_take (i := 0) (oi := _) (v := ?vtp1) rfl (by kernel_rfl) (by kernel_rfl) (by kernel_rfl) (fun _ _ _ h => h) (Or.inl ⟨by kernel_rfl, ?hytp1⟩) hHeld ?resttp1
      case hytp1 => (intro w9 hSw; clear hSw; go_simp; try with_reducible rfl)
      try simp only [Act.put, List.getElem_toArray, List.getElem_cons_zero, List.getElem_cons_succ, List.setIfInBounds_toArray, List.set_cons_zero, List.set_cons_succ]
      refine wpAnyH_take (i := 1) (oi := _) (v := ?vtp2) rfl (by kernel_rfl) (by kernel_rfl) (by kernel_rfl) (fun _ _ _ h => h) (Or.inl ⟨by kernel_rfl, ?hytp2⟩) hHeld ?resttp2
      case hytp2 => (intro w9 hSw; clear hSw; go_simp; try with_reducible rfl)
      try simp only [Act.put, List.getElem_toArray, List.getElem_cons_zero, List.getElem_cons_succ, List.setIfInBounds_toArray, List.set_cons_zero, List.set_cons_succ]
      refine wpAnyH_take (i := 2) (oi := _) (v := ?vtp3) rfl (by kernel_rfl) (by kernel_rfl) (by kernel_rfl) (fun _ _ _ h => h) (Or.inl ⟨by kernel_rfl, ?hytp3⟩) hHeld ?resttp3
      case hytp3 => (intro w9 hSw; obtain ⟨e9, f9, g9⟩ := hSw; go_simp; try with_reducible rfl)
      try simp only [Act.put, List.getElem_toArray, List.getElem_cons_zero, List.getElem_cons_succ, List.setIfInBounds_toArray, List.set_cons_zero, List.set_cons_succ]
      refine wpAnyH_take (i := 4) (oi := _) (v := ?vtp4) rfl (by kernel_rfl) (by kernel_rfl) (by kernel_rfl) (fun _ _ _ h => h) (Or.inl ⟨by kernel_rfl, ?hytp4⟩) hHeld ?resttp4
      case hytp4 => (intro w9 hSw; obtain ⟨e9, f9, g9⟩ := hSw; go_simp; try with_reducible rfl)
      try simp only [Act.put, List.getElem_toArray, List.getElem_cons_zero, List.getElem_cons_succ, List.setIfInBounds_toArray, List.set_cons_zero, List.set_cons_succ]
      refine wpAnyH_take (i := 6) (oi := _) (v := ?vtp5) rfl (by kernel_rfl) (by kernel_rfl) (by kernel_rfl) (fun _ _ _ h => h) (Or.inl ⟨by kernel_rfl, ?hytp5⟩) hHeld ?resttp5
      case hytp5 => (intro w9 hSw; clear hSw; go_simp; try with_reducible rfl)
      try simp only [Act.put, List.getElem_toArray, List.getElem_cons_zero, List.getElem_cons_succ, List.setIfInBounds_toArray, List.set_cons_zero, List.set_cons_succ]
      refine wpAnyH_take (i := 7) (oi := _) (v := ?vtp6) rfl (by kernel_rfl) (by kernel_rfl) (by kernel_rfl) (fun _ _ _ h => h) (Or.inl ⟨by kernel_rfl, ?hytp6⟩) hHeld ?resttp6
      case hytp6 => (intro w9 hSw; obtain ⟨e9, f9, g9⟩ := hSw; go_simp; try with_reducible rfl)
      try simp only [Act.put, List.getElem_toArray, List.getElem_cons_zero, List.getElem_cons_succ, List.setIfInBounds_toArray, List.set_cons_zero, List.set_cons_succ]
      refine wpAnyH_ready (rs := [3, 5]) (by kernel_rfl) (by simp) ?_
      refine AllReadyH.cons (o := _) rfl (fun K hK => ?_) ?_
      · go_simp
        refine (W1.out _ HV.out).mono ?_; rintro e w7 ⟨v7, rfl, r7, b7⟩
        dsimp only
        have q7 := bnext hqd b7
        have HV := Lib.hid (HV.out.kept b7)
        obtain ⟨ad7, cp7, hs7, -⟩ := shape_of r7
        subst hs7
        have RA := Lib.hid (row_down hqd.size r7)
        clear r7
        refine hK.out _ _ (HK.out _ q7) (fun hHeld3 => ?_)
        clear hK K hHeld
        have hHeld := hHeld3
        clear hHeld3
        try simp only [Act.put, List.getElem_toArray, List.getElem_cons_zero, List.getElem_cons_succ, List.setIfInBounds_toArray, List.set_cons_zero, List.set_cons_succ]
        refine wpAnyH_ready (rs := [5, 8]) (by kernel_rfl) (by simp) ?_
        refine AllReadyH.cons (o := _) rfl (fun K hK => ?_) ?_
        · obtain ⟨w8, hw8⟩ : ∃ w9, w7.alloc (.cells #[.int .i64 xa, .int .i64 xp, .int .i64 xz] 37) = w9 := ⟨_, rfl⟩
          have b8 : Below w7.heap.size w7 w8 := by rw [← hw8]; exact balloc1 _ _
          have q8 := bnext q7 b8
          have hz8 : w8.heap.size = w7.heap.size + 1 := by rw [← hw8]; exact size_alloc _ _
          have hB8 : Blk w7.heap.size #[.int .i64 xa, .int .i64 xp, .int .i64 xz] 37 w8 := by rw [← hw8]; exact Blk.new _ _ _
          have HV := Lib.hid (HV.out.kept b8)
          have RA := Lib.hid (row_kept RA.out b8)
          have HS := Lib.hid hB8
          have HZ8 := Lib.hid hz8
          have HW8 := Lib.hid hw8
          clear hB8 hz8 hw8
          go_simp
          try rw [HW8.out]
          refine hK.out _ _ (HK.out _ q8) (fun hHeld3 => ?_)
          clear hK K hHeld
          have hHeld := hHeld3
          clear hHeld3
          try simp only [Act.put, List.getElem_toArray, List.getElem_cons_zero, List.getElem_cons_succ, List.setIfInBounds_toArray, List.set_cons_zero, List.set_cons_succ]
          refine wpAnyH_ready (rs := [8]) (by kernel_rfl) (by simp) ?_
          refine AllReadyH.cons (o := _) rfl (fun K hK => ?_) ?_
          · go_simp
            refine (E.out _).mono ?_; rintro e w9 ⟨rfl, b9⟩
            dsimp only
            have q9 := bnext q8 b9
            have HV := Lib.hid (HV.out.kept b9)
            have RA := Lib.hid (row_kept RA.out b9)
            have HS := Lib.hid (HS.out.kept1 b9)
            refine hK.out _ _ (HK.out _ q9) (fun hHeld3 => ?_)
            clear hK K hHeld
            have hHeld := hHeld3
            clear hHeld3
            try simp only [Act.put, List.getElem_toArray, List.getElem_cons_zero, List.getElem_cons_succ, List.setIfInBounds_toArray, List.set_cons_zero, List.set_cons_succ]
            refine wpAnyH_ready (rs := [9]) (by kernel_rfl) (by simp) ?_
            refine AllReadyH.cons (o := _) rfl (fun K hK => ?_) ?_
            · go_simp
              refine (W2.out _ HV.out).mono ?_; rintro e w10 ⟨v10, rfl, r10, b10⟩
              dsimp only
              have q10 := bnext q9 b10
              have HV := Lib.hid (HV.out.kept b10)
              have RA := Lib.hid (row_kept RA.out b10)
              have HS := Lib.hid (HS.out.kept1 b10)
              obtain ⟨ad10, cp10, hs10, -⟩ := shape_of r10
              subst hs10
              have RB := Lib.hid (row_down q9.size r10)
              clear r10
              refine hK.out _ _ (HK.out _ q10) (fun hHeld3 => ?_)
              clear hK K hHeld
              have hHeld := hHeld3
              clear hHeld3
              try simp only [Act.put, List.getElem_toArray, List.getElem_cons_zero, List.getElem_cons_succ, List.setIfInBounds_toArray, List.set_cons_zero, List.set_cons_succ]
              refine wpAnyH_ready (rs := [10]) (by kernel_rfl) (by simp) ?_
              refine AllReadyH.cons (o := _) rfl (fun K hK => ?_) ?_
              · obtain ⟨w11, hw11⟩ : ∃ w9, w10.alloc (.cells #[.slice ad7 KA.length cp7, .slice (some ⟨w7.heap.size, 0, none⟩) 1 1, .slice ad10 KB.length cp10] 22) = w9 := ⟨_, rfl⟩
                have b11 : Below w10.heap.size w10 w11 := by rw [← hw11]; exact balloc1 _ _
                have q11 := bnext q10 b11
                have hz11 : w11.heap.size = w10.heap.size + 1 := by rw [← hw11]; exact size_alloc _ _
                have hB11 : Blk w10.heap.size #[.slice ad7 KA.length cp7, .slice (some ⟨w7.heap.size, 0, none⟩) 1 1, .slice ad10 KB.length cp10] 22 w11 := by rw [← hw11]; exact Blk.new _ _ _
                have HV := Lib.hid (HV.out.kept b11)
                have RA := Lib.hid (row_kept RA.out b11)
                have HS := Lib.hid (HS.out.kept1 b11)
                have RB := Lib.hid (row_kept RB.out b11)
                have HT := Lib.hid hB11
                have HZ11 := Lib.hid hz11
                have HW11 := Lib.hid hw11
                clear hB11 hz11 hw11
                go_simp
                try rw [HW11.out]
                refine hK.out _ _ (HK.out _ q11) (fun hHeld3 => ?_)
                clear hK K hHeld
                have hHeld := hHeld3
                clear hHeld3
                try simp only [Act.put, List.getElem_toArray, List.getElem_cons_zero, List.getElem_cons_succ, List.setIfInBounds_toArray, List.set_cons_zero, List.set_cons_succ]
                refine wpAnyH_ready (rs := [11]) (by kernel_rfl) (by simp) ?_
                refine AllReadyH.cons (o := _) rfl (fun K hK => ?_) ?_
                · go_simp
                  refine (CC.out _ _ _ _ _ HT.out (rowE_in RA.out) (one_in HS.out) (rowE_in RB.out)).mono ?_; rintro e w12 ⟨v12, rfl, r12, b12⟩
                  dsimp only
                  have q12 := bnext q11 b12
                  have HV := Lib.hid (HV.out.kept b12)
                  have RA := Lib.hid (row_kept RA.out b12)
                  have HS := Lib.hid (HS.out.kept1 b12)
                  have RB := Lib.hid (row_kept RB.out b12)
                  have HT := Lib.hid (HT.out.kept1 b12)
                  obtain ⟨ad12, cp12, hs12, -⟩ := shape_of r12
                  subst hs12
                  have RO := Lib.hid (row_down q11.size r12)
                  clear r12
                  refine hK.out _ _ (HK.out _ q12) (fun hHeld3 => ?_)
                  clear hK K hHeld
                  have hHeld := hHeld3
                  clear hHeld3
                  try simp only [Act.put, List.getElem_toArray, List.getElem_cons_zero, List.getElem_cons_succ, List.setIfInBounds_toArray, List.set_cons_zero, List.set_cons_succ]
                  refine wpAnyH_take (i := 12) (oi := _) (v := ?vtp13) rfl (by kernel_rfl) (by kernel_rfl) (by kernel_rfl) (fun _ _ _ h => h) (Or.inl ⟨by kernel_rfl, ?hytp13⟩) hHeld ?resttp13
                  case hytp13 => (intro w9 hSw; clear hSw; go_simp; try with_reducible rfl)
                  try simp only [Act.put, List.getElem_toArray, List.getElem_cons_zero, List.getElem_cons_succ, List.setIfInBounds_toArray, List.set_cons_zero, List.set_cons_succ]
                  refine ⟨by kernel_rfl, ?_⟩
                  clear hHeld
                  go_wp2
                  have HK2 : Hid (∀ W, Below w12.heap.size w12 W → W.cell? ⟨w.heap.size, 0, none⟩ = some (.int .i64 xa) ∧ W.cell? ⟨w.heap.size, 1, none⟩ = some (.int .i64 xp) ∧ W.cell? ⟨w.heap.size, 2, none⟩ = some (.int .i64 xz)) := Lib.hid fun W b => HK.out W (bnext q12 b)
                  have hqe : Below w12.heap.size w12 w12.drew := (Below.refl _ _).drew
                  have HV := Lib.hid (HV.out.kept hqe)
                  have RO := Lib.hid (row_kept RO.out hqe)
                  refine wp_region_held_drew (S := fun w9 => w9.cell? ⟨w.heap.size, 0, none⟩ = some (.int .i64 xa) ∧ w9.cell? ⟨w.heap.size, 1, none⟩ = some (.int .i64 xp) ∧ w9.cell? ⟨w.heap.size, 2, none⟩ = some (.int .i64 xz)) mixed (HK2.out _ hqe) (fun hHeld => ?_)
                  generalize w12.drew = we at *
                  refine wpAnyH_take (i := 0) (oi := _) (v := ?vtp14) rfl (by kernel_rfl) (by kernel_rfl) (by kernel_rfl) (fun _ _ _ h => h) (Or.inl ⟨by kernel_rfl, ?hytp14⟩) hHeld ?resttp14
                  case hytp14 => (intro w9 hSw; clear hSw; go_simp; try with_reducible rfl)
                  try simp only [Act.put, List.getElem_toArray, List.getElem_cons_zero, List.getElem_cons_succ, List.setIfInBounds_toArray, List.set_cons_zero, List.set_cons_succ]
                  refine wpAnyH_take (i := 1) (oi := _) (v := ?vtp15) rfl (by kernel_rfl) (by kernel_rfl) (by kernel_rfl) (fun _ _ _ h => h) (Or.inl ⟨by kernel_rfl, ?hytp15⟩) hHeld ?resttp15
                  case hytp15 => (intro w9 hSw; clear hSw; go_simp; try with_reducible rfl)
                  try simp only [Act.put, List.getElem_toArray, List.getElem_cons_zero, List.getElem_cons_succ, List.setIfInBounds_toArray, List.set_cons_zero, List.set_cons_succ]
                  refine wpAnyH_take (i := 2) (oi := _) (v := ?vtp16) rfl (by kernel_rfl) (by kernel_rfl) (by kernel_rfl) (fun _ _ _ h => h) (Or.inl ⟨by kernel_rfl, ?hytp16⟩) hHeld ?resttp16
                  case hytp16 => (intro w9 hSw; clear hSw; go_simp; try with_reducible rfl)
                  try simp only [Act.put, List.getElem_toArray, List.getElem_cons_zero, List.getElem_cons_succ, List.setIfInBounds_toArray, List.set_cons_zero, List.set_cons_succ]
                  refine wpAnyH_take (i := 3) (oi := _) (v := ?vtp17) rfl (by kernel_rfl) (by kernel_rfl) (by kernel_rfl) (fun _ _ _ h => h) (Or.inl ⟨by kernel_rfl, ?hytp17⟩) hHeld ?resttp17
                  case hytp17 => (intro w9 hSw; obtain ⟨e9, f9, g9⟩ := hSw; go_simp; try with_reducible rfl)
                  try simp only [Act.put, List.getElem_toArray, List.getElem_cons_zero, List.getElem_cons_succ, List.setIfInBounds_toArray, List.set_cons_zero, List.set_cons_succ]
                  refine wpAnyH_take (i := 4) (oi := _) (v := ?vtp18) rfl (by kernel_rfl) (by kernel_rfl) (by kernel_rfl) (fun _ _ _ h => h) (Or.inl ⟨by kernel_rfl, ?hytp18⟩) hHeld ?resttp18
                  case hytp18 => (intro w9 hSw; obtain ⟨e9, f9, g9⟩ := hSw; go_simp; try with_reducible rfl)
                  try simp only [Act.put, List.getElem_toArray, List.getElem_cons_zero, List.getElem_cons_succ, List.setIfInBounds_toArray, List.set_cons_zero, List.set_cons_succ]
                  refine wpAnyH_take (i := 7) (oi := _) (v := ?vtp19) rfl (by kernel_rfl) (by kernel_rfl) (by kernel_rfl) (fun _ _ _ h => h) (Or.inl ⟨by kernel_rfl, ?hytp19⟩) hHeld ?resttp19
                  case hytp19 => (intro w9 hSw; clear hSw; go_simp; try with_reducible rfl)
                  try simp only [Act.put, List.getElem_toArray, List.getElem_cons_zero, List.getElem_cons_succ, List.setIfInBounds_toArray, List.set_cons_zero, List.set_cons_succ]
                  refine wpAnyH_ready (rs := [5]) (by kernel_rfl) (by simp) ?_
                  refine AllReadyH.cons (o := _) rfl (fun K hK => ?_) ?_
                  · go_simp
                    refine (E.out _).mono ?_; rintro e w20 ⟨rfl, b20⟩
                    dsimp only
                    have q20 := bnext hqe b20
                    have HV := Lib.hid (HV.out.kept b20)
                    have RO := Lib.hid (row_kept RO.out b20)
                    refine hK.out _ _ (HK2.out _ q20) (fun hHeld3 => ?_)
                    clear hK K hHeld
                    have hHeld := hHeld3
                    clear hHeld3
                    try simp only [Act.put, List.getElem_toArray, List.getElem_cons_zero, List.getElem_cons_succ, List.setIfInBounds_toArray, List.set_cons_zero, List.set_cons_succ]
                    refine wpAnyH_ready (rs := [6]) (by kernel_rfl) (by simp) ?_
                    refine AllReadyH.cons (o := _) rfl (fun K hK => ?_) ?_
                    · go_simp
                      refine (W3.out _ HV.out).mono ?_; rintro e w21 ⟨v21, rfl, r21, b21⟩
                      dsimp only
                      have q21 := bnext q20 b21
                      have HV := Lib.hid (HV.out.kept b21)
                      have RO := Lib.hid (row_kept RO.out b21)
                      obtain ⟨ad21, cp21, hs21, -⟩ := shape_of r21
                      subst hs21
                      have RM := Lib.hid (row_down q20.size r21)
                      clear r21
                      refine hK.out _ _ (HK2.out _ q21) (fun hHeld3 => ?_)
                      clear hK K hHeld
                      have hHeld := hHeld3
                      clear hHeld3
                      try simp only [Act.put, List.getElem_toArray, List.getElem_cons_zero, List.getElem_cons_succ, List.setIfInBounds_toArray, List.set_cons_zero, List.set_cons_succ]
                      refine wpAnyH_ready (rs := [8]) (by kernel_rfl) (by simp) ?_
                      refine AllReadyH.cons (o := _) rfl (fun K hK => ?_) ?_
                      · go_simp
                        refine (L.out _ _ _ (rowE_in RM.out) (rowE_in RO.out)).mono ?_; rintro e w22 ⟨v22, rfl, r22, b22⟩
                        dsimp only
                        have q22 := bnext q21 b22
                        have HV := Lib.hid (HV.out.kept b22)
                        have RO := Lib.hid (row_kept RO.out b22)
                        have RM := Lib.hid (row_kept RM.out b22)
                        obtain ⟨ad22, cp22, hs22, -⟩ := shape_of r22
                        subst hs22
                        have RF := Lib.hid (row_down q21.size r22)
                        clear r22
                        refine hK.out _ _ (HK2.out _ q22) (fun hHeld3 => ?_)
                        clear hK K hHeld
                        have hHeld := hHeld3
                        clear hHeld3
                        try simp only [Act.put, List.getElem_toArray, List.getElem_cons_zero, List.getElem_cons_succ, List.setIfInBounds_toArray, List.set_cons_zero, List.set_cons_succ]
                        refine wpAnyH_take (i := 9) (oi := _) (v := ?vtp23) rfl (by kernel_rfl) (by kernel_rfl) (by kernel_rfl) (fun _ _ _ h => h) (Or.inl ⟨by kernel_rfl, ?hytp23⟩) hHeld ?resttp23
                        case hytp23 => (intro w9 hSw; clear hSw; go_simp; try with_reducible rfl)
                        try simp only [Act.put, List.getElem_toArray, List.getElem_cons_zero, List.getElem_cons_succ, List.setIfInBounds_toArray, List.set_cons_zero, List.set_cons_succ]
                        refine wpAnyH_take (i := 10) (oi := _) (v := ?vtp24) rfl (by kernel_rfl) (by kernel_rfl) (by kernel_rfl) (fun _ _ _ h => h) (Or.inl ⟨by kernel_rfl, ?hytp24⟩) hHeld ?resttp24
                        case hytp24 => (intro w9 hSw; clear hSw; go_simp; try with_reducible rfl)
                        try simp only [Act.put, List.getElem_toArray, List.getElem_cons_zero, List.getElem_cons_succ, List.setIfInBounds_toArray, List.set_cons_zero, List.set_cons_succ]
                        refine wpAnyH_take (i := 11) (oi := _) (v := ?vtp25) rfl (by kernel_rfl) (by kernel_rfl) (by kernel_rfl) (fun _ _ _ h => h) (Or.inl ⟨by kernel_rfl, ?hytp25⟩) hHeld ?resttp25
                        case hytp25 => (intro w9 hSw; clear hSw; go_simp; try with_reducible rfl)
                        try simp only [Act.put, List.getElem_toArray, List.getElem_cons_zero, List.getElem_cons_succ, List.setIfInBounds_toArray, List.set_cons_zero, List.set_cons_succ]
                        refine ⟨by kernel_rfl, ?_⟩
                        clear hHeld
                        have HBZ := hb2.trans (q12.mono hb2.size)
                        have HBY := bnext HBZ q22
                        go_wp2
                        go_ret3
                        exact ⟨_, _, rfl, row_down hb2.size RO.out, row_down (by have := HBZ.size; omega) RF.out, HBY⟩
                      exact AllReadyH.nil
                    exact AllReadyH.nil
                  exact AllReadyH.nil
                exact AllReadyH.nil
              exact AllReadyH.nil
            exact AllReadyH.nil
          exact AllReadyH.nil
        refine AllReadyH.cons (o := _) rfl (fun K hK => ?_) ?_
        · go_simp
          refine (E.out _).mono ?_; rintro e w26 ⟨rfl, b26⟩
          dsimp only
          have q26 := bnext q7 b26
          have HV := Lib.hid (HV.out.kept b26)
          have RA := Lib.hid (row_kept RA.out b26)
          refine hK.out _ _ (HK.out _ q26) (fun hHeld3 => ?_)
          clear hK K hHeld
          have hHeld := hHeld3
          clear hHeld3
          try simp only [Act.put, List.getElem_toArray, List.getElem_cons_zero, List.getElem_cons_succ, List.setIfInBounds_toArray, List.set_cons_zero, List.set_cons_succ]
          refine wpAnyH_ready (rs := [5, 9]) (by kernel_rfl) (by simp) ?_
          refine AllReadyH.cons (o := _) rfl (fun K hK => ?_) ?_
          · obtain ⟨w27, hw27⟩ : ∃ w9, w26.alloc (.cells #[.int .i64 xa, .int .i64 xp, .int .i64 xz] 37) = w9 := ⟨_, rfl⟩
            have b27 : Below w26.heap.size w26 w27 := by rw [← hw27]; exact balloc1 _ _
            have q27 := bnext q26 b27
            have hz27 : w27.heap.size = w26.heap.size + 1 := by rw [← hw27]; exact size_alloc _ _
            have hB27 : Blk w26.heap.size #[.int .i64 xa, .int .i64 xp, .int .i64 xz] 37 w27 := by rw [← hw27]; exact Blk.new _ _ _
            have HV := Lib.hid (HV.out.kept b27)
            have RA := Lib.hid (row_kept RA.out b27)
            have HS := Lib.hid hB27
            have HZ27 := Lib.hid hz27
            have HW27 := Lib.hid hw27
            clear hB27 hz27 hw27
            go_simp
            try rw [HW27.out]
            refine hK.out _ _ (HK.out _ q27) (fun hHeld3 => ?_)
            clear hK K hHeld
            have hHeld := hHeld3
            clear hHeld3
            try simp only [Act.put, List.getElem_toArray, List.getElem_cons_zero, List.getElem_cons_succ, List.setIfInBounds_toArray, List.set_cons_zero, List.set_cons_succ]
            refine wpAnyH_ready (rs := [9]) (by kernel_rfl) (by simp) ?_
            refine AllReadyH.cons (o := _) rfl (fun K hK => ?_) ?_
            · go_simp
              refine (W2.out _ HV.out).mono ?_; rintro e w28 ⟨v28, rfl, r28, b28⟩
              dsimp only
              have q28 := bnext q27 b28
              have HV := Lib.hid (HV.out.kept b28)
              have RA := Lib.hid (row_kept RA.out b28)
              have HS := Lib.hid (HS.out.kept1 b28)
              obtain ⟨ad28, cp28, hs28, -⟩ := shape_of r28
              subst hs28
              have RB := Lib.hid (row_down q27.size r28)
              clear r28
              refine hK.out _ _ (HK.out _ q28) (fun hHeld3 => ?_)
              clear hK K hHeld
              have hHeld := hHeld3
              clear hHeld3
              try simp only [Act.put, List.getElem_toArray, List.getElem_cons_zero, List.getElem_cons_succ, List.setIfInBounds_toArray, List.set_cons_zero, List.set_cons_succ]
              refine wpAnyH_ready (rs := [10]) (by kernel_rfl) (by simp) ?_
              refine AllReadyH.cons (o := _) rfl (fun K hK => ?_) ?_
              · obtain ⟨w29, hw29⟩ : ∃ w9, w28.alloc (.cells #[.slice ad7 KA.length cp7, .slice (some ⟨w26.heap.size, 0, none⟩) 1 1, .slice ad28 KB.length cp28] 22) = w9 := ⟨_, rfl⟩
                have b29 : Below w28.heap.size w28 w29 := by rw [← hw29]; exact balloc1 _ _
                have q29 := bnext q28 b29
                have hz29 : w29.heap.size = w28.heap.size + 1 := by rw [← hw29]; exact size_alloc _ _
                have hB29 : Blk w28.heap.size #[.slice ad7 KA.length cp7, .slice (some ⟨w26.heap.size, 0, none⟩) 1 1, .slice ad28 KB.length cp28] 22 w29 := by rw [← hw29]; exact Blk.new _ _ _
                have HV := Lib.hid (HV.out.kept b29)
                have RA := Lib.hid (row_kept RA.out b29)
                have HS := Lib.hid (HS.out.kept1 b29)
                have RB := Lib.hid (row_kept RB.out b29)
                have HT := Lib.hid hB29
                have HZ29 := Lib.hid hz29
                have HW29 := Lib.hid hw29
                clear hB29 hz29 hw29
                go_simp
                try rw [HW29.out]
                refine hK.out _ _ (HK.out _ q29) (fun hHeld3 => ?_)
                clear hK K hHeld
                have hHeld := hHeld3
                clear hHeld3
                try simp only [Act.put, List.getElem_toArray, List.getElem_cons_zero, List.getElem_cons_succ, List.setIfInBounds_toArray, List.set_cons_zero, List.set_cons_succ]
                refine wpAnyH_ready (rs := [11]) (by kernel_rfl) (by simp) ?_
                refine AllReadyH.cons (o := _) rfl (fun K hK => ?_) ?_
                · go_simp
                  refine (CC.out _ _ _ _ _ HT.out (rowE_in RA.out) (one_in HS.out) (rowE_in RB.out)).mono ?_; rintro e w30 ⟨v30, rfl, r30, b30⟩
                  dsimp only
                  have q30 := bnext q29 b30
                  have HV := Lib.hid (HV.out.kept b30)
                  have RA := Lib.hid (row_kept RA.out b30)
                  have HS := Lib.hid (HS.out.kept1 b30)
                  have RB := Lib.hid (row_kept RB.out b30)
                  have HT := Lib.hid (HT.out.kept1 b30)
                  obtain ⟨ad30, cp30, hs30, -⟩ := shape_of r30
                  subst hs30
                  have RO := Lib.hid (row_down q29.size r30)
                  clear r30
                  refine hK.out _ _ (HK.out _ q30) (fun hHeld3 => ?_)
                  clear hK K hHeld
                  have hHeld := hHeld3
                  clear hHeld3
                  try simp only [Act.put, List.getElem_toArray, List.getElem_cons_zero, List.getElem_cons_succ, List.setIfInBounds_toArray, List.set_cons_zero, List.set_cons_succ]
                  refine wpAnyH_take (i := 12) (oi := _) (v := ?vtp31) rfl (by kernel_rfl) (by kernel_rfl) (by kernel_rfl) (fun _ _ _ h => h) (Or.inl ⟨by kernel_rfl, ?hytp31⟩) hHeld ?resttp31
                  case hytp31 => (intro w9 hSw; clear hSw; go_simp; try with_reducible rfl)
                  try simp only [Act.put, List.getElem_toArray, List.getElem_cons_zero, List.getElem_cons_succ, List.setIfInBounds_toArray, List.set_cons_zero, List.set_cons_succ]
                  refine ⟨by kernel_rfl, ?_⟩
                  clear hHeld
                  go_wp2
                  have HK2 : Hid (∀ W, Below w30.heap.size w30 W → W.cell? ⟨w.heap.size, 0, none⟩ = some (.int .i64 xa) ∧ W.cell? ⟨w.heap.size, 1, none⟩ = some (.int .i64 xp) ∧ W.cell? ⟨w.heap.size, 2, none⟩ = some (.int .i64 xz)) := Lib.hid fun W b => HK.out W (bnext q30 b)
                  have hqe : Below w30.heap.size w30 w30.drew := (Below.refl _ _).drew
                  have HV := Lib.hid (HV.out.kept hqe)
                  have RO := Lib.hid (row_kept RO.out hqe)
                  refine wp_region_held_drew (S := fun w9 => w9.cell? ⟨w.heap.size, 0, none⟩ = some (.int .i64 xa) ∧ w9.cell? ⟨w.heap.size, 1, none⟩ = some (.int .i64 xp) ∧ w9.cell? ⟨w.heap.size, 2, none⟩ = some (.int .i64 xz)) mixed (HK2.out _ hqe) (fun hHeld => ?_)
                  generalize w30.drew = we at *
                  refine wpAnyH_take (i := 0) (oi := _) (v := ?vtp32) rfl (by kernel_rfl) (by kernel_rfl) (by kernel_rfl) (fun _ _ _ h => h) (Or.inl ⟨by kernel_rfl, ?hytp32⟩) hHeld ?resttp32
                  case hytp32 => (intro w9 hSw; clear hSw; go_simp; try with_reducible rfl)
                  try simp only [Act.put, List.getElem_toArray, List.getElem_cons_zero, List.getElem_cons_succ, List.setIfInBounds_toArray, List.set_cons_zero, List.set_cons_succ]
                  refine wpAnyH_take (i := 1) (oi := _) (v := ?vtp33) rfl (by kernel_rfl) (by kernel_rfl) (by kernel_rfl) (fun _ _ _ h => h) (Or.inl ⟨by kernel_rfl, ?hytp33⟩) hHeld ?resttp33
                  case hytp33 => (intro w9 hSw; clear hSw; go_simp; try with_reducible rfl)
                  try simp only [Act.put, List.getElem_toArray, List.getElem_cons_zero, List.getElem_cons_succ, List.setIfInBounds_toArray, List.set_cons_zero, List.set_cons_succ]
                  refine wpAnyH_take (i := 2) (oi := _) (v := ?vtp34) rfl (by kernel_rfl) (by kernel_rfl) (by kernel_rfl) (fun _ _ _ h => h) (Or.inl ⟨by kernel_rfl, ?hytp34⟩) hHeld ?resttp34
                  case hytp34 => (intro w9 hSw; clear hSw; go_simp; try with_reducible rfl)
                  try simp only [Act.put, List.getElem_toArray, List.getElem_cons_zero, List.getElem_cons_succ, List.setIfInBounds_toArray, List.set_cons_zero, List.set_cons_succ]
                  refine wpAnyH_take (i := 3) (oi := _) (v := ?vtp35) rfl (by kernel_rfl) (by kernel_rfl) (by kernel_rfl) (fun _ _ _ h => h) (Or.inl ⟨by kernel_rfl, ?hytp35⟩) hHeld ?resttp35
                  case hytp35 => (intro w9 hSw; obtain ⟨e9, f9, g9⟩ := hSw; go_simp; try with_reducible rfl)
                  try simp only [Act.put, List.getElem_toArray, List.getElem_cons_zero, List.getElem_cons_succ, List.setIfInBounds_toArray, List.set_cons_zero, List.set_cons_succ]
                  refine wpAnyH_take (i := 4) (oi := _) (v := ?vtp36) rfl (by kernel_rfl) (by kernel_rfl) (by kernel_rfl) (fun _ _ _ h => h) (Or.inl ⟨by kernel_rfl, ?hytp36⟩) hHeld ?resttp36
                  case hytp36 => (intro w9 hSw; obtain ⟨e9, f9, g9⟩ := hSw; go_simp; try with_reducible rfl)
                  try simp only [Act.put, List.getElem_toArray, List.getElem_cons_zero, List.getElem_cons_succ, List.setIfInBounds_toArray, List.set_cons_zero, List.set_cons_succ]
                  refine wpAnyH_take (i := 7) (oi := _) (v := ?vtp37) rfl (by kernel_rfl) (by kernel_rfl) (by kernel_rfl) (fun _ _ _ h => h) (Or.inl ⟨by kernel_rfl, ?hytp37⟩) hHeld ?resttp37
                  case hytp37 => (intro w9 hSw; clear hSw; go_simp; try with_reducible rfl)
                  try simp only [Act.put, List.getElem_toArray, List.getElem_cons_zero, List.getElem_cons_succ, List.setIfInBounds_toArray, List.set_cons_zero, List.set_cons_succ]
                  refine wpAnyH_ready (rs := [5]) (by kernel_rfl) (by simp) ?_
                  refine AllReadyH.cons (o := _) rfl (fun K hK => ?_) ?_
                  · go_simp
                    refine (E.out _).mono ?_; rintro e w38 ⟨rfl, b38⟩
                    dsimp only
                    have q38 := bnext hqe b38
                    have HV := Lib.hid (HV.out.kept b38)
                    have RO := Lib.hid (row_kept RO.out b38)
                    refine hK.out _ _ (HK2.out _ q38) (fun hHeld3 => ?_)
                    clear hK K hHeld
                    have hHeld := hHeld3
                    clear hHeld3
                    try simp only [Act.put, List.getElem_toArray, List.getElem_cons_zero, List.getElem_cons_succ, List.setIfInBounds_toArray, List.set_cons_zero, List.set_cons_succ]
                    refine wpAnyH_ready (rs := [6]) (by kernel_rfl) (by simp) ?_
                    refine AllReadyH.cons (o := _) rfl (fun K hK => ?_) ?_
                    · go_simp
                      refine (W3.out _ HV.out).mono ?_; rintro e w39 ⟨v39, rfl, r39, b39⟩
                      dsimp only
                      have q39 := bnext q38 b39
                      have HV := Lib.hid (HV.out.kept b39)
                      have RO := Lib.hid (row_kept RO.out b39)
                      obtain ⟨ad39, cp39, hs39, -⟩ := shape_of r39
                      subst hs39
                      have RM := Lib.hid (row_down q38.size r39)
                      clear r39
                      refine hK.out _ _ (HK2.out _ q39) (fun hHeld3 => ?_)
                      clear hK K hHeld
                      have hHeld := hHeld3
                      clear hHeld3
                      try simp only [Act.put, List.getElem_toArray, List.getElem_cons_zero, List.getElem_cons_succ, List.setIfInBounds_toArray, List.set_cons_zero, List.set_cons_succ]
                      refine wpAnyH_ready (rs := [8]) (by kernel_rfl) (by simp) ?_
                      refine AllReadyH.cons (o := _) rfl (fun K hK => ?_) ?_
                      · go_simp
                        refine (L.out _ _ _ (rowE_in RM.out) (rowE_in RO.out)).mono ?_; rintro e w40 ⟨v40, rfl, r40, b40⟩
                        dsimp only
                        have q40 := bnext q39 b40
                        have HV := Lib.hid (HV.out.kept b40)
                        have RO := Lib.hid (row_kept RO.out b40)
                        have RM := Lib.hid (row_kept RM.out b40)
                        obtain ⟨ad40, cp40, hs40, -⟩ := shape_of r40
                        subst hs40
                        have RF := Lib.hid (row_down q39.size r40)
                        clear r40
                        refine hK.out _ _ (HK2.out _ q40) (fun hHeld3 => ?_)
                        clear hK K hHeld
                        have hHeld := hHeld3
                        clear hHeld3
                        try simp only [Act.put, List.getElem_toArray, List.getElem_cons_zero, List.getElem_cons_succ, List.setIfInBounds_toArray, List.set_cons_zero, List.set_cons_succ]
                        refine wpAnyH_take (i := 9) (oi := _) (v := ?vtp41) rfl (by kernel_rfl) (by kernel_rfl) (by kernel_rfl) (fun _ _ _ h => h) (Or.inl ⟨by kernel_rfl, ?hytp41⟩) hHeld ?resttp41
                        case hytp41 => (intro w9 hSw; clear hSw; go_simp; try with_reducible rfl)
                        try simp only [Act.put, List.getElem_toArray, List.getElem_cons_zero, List.getElem_cons_succ, List.setIfInBounds_toArray, List.set_cons_zero, List.set_cons_succ]
                        refine wpAnyH_take (i := 10) (oi := _) (v := ?vtp42) rfl (by kernel_rfl) (by kernel_rfl) (by kernel_rfl) (fun _ _ _ h => h) (Or.inl ⟨by kernel_rfl, ?hytp42⟩) hHeld ?resttp42
                        case hytp42 => (intro w9 hSw; clear hSw; go_simp; try with_reducible rfl)
                        try simp only [Act.put, List.getElem_toArray, List.getElem_cons_zero, List.getElem_cons_succ, List.setIfInBounds_toArray, List.set_cons_zero, List.set_cons_succ]
                        refine wpAnyH_take (i := 11) (oi := _) (v := ?vtp43) rfl (by kernel_rfl) (by kernel_rfl) (by kernel_rfl) (fun _ _ _ h => h) (Or.inl ⟨by kernel_rfl, ?hytp43⟩) hHeld ?resttp43
                        case hytp43 => (intro w9 hSw; clear hSw; go_simp; try with_reducible rfl)
                        try simp only [Act.put, List.getElem_toArray, List.getElem_cons_zero, List.getElem_cons_succ, List.setIfInBounds_toArray, List.set_cons_zero, List.set_cons_succ]
                        refine ⟨by kernel_rfl, ?_⟩
                        clear hHeld
                        have HBZ := hb2.trans (q30.mono hb2.size)
                        have HBY := bnext HBZ q40
                        go_wp2
                        go_ret3
                        exact ⟨_, _, rfl, row_down hb2.size RO.out, row_down (by have := HBZ.size; omega) RF.out, HBY⟩
                      exact AllReadyH.nil
                    exact AllReadyH.nil
                  exact AllReadyH.nil
                exact AllReadyH.nil
              exact AllReadyH.nil
            exact AllReadyH.nil
          refine AllReadyH.cons (o := _) rfl (fun K hK => ?_) ?_
          · go_simp
            refine (W2.out _ HV.out).mono ?_; rintro e w44 ⟨v44, rfl, r44, b44⟩
            dsimp only
            have q44 := bnext q26 b44
            have HV := Lib.hid (HV.out.kept b44)
            have RA := Lib.hid (row_kept RA.out b44)
            obtain ⟨ad44, cp44, hs44, -⟩ := shape_of r44
            subst hs44
            have RB := Lib.hid (row_down q26.size r44)
            clear r44
            refine hK.out _ _ (HK.out _ q44) (fun hHeld3 => ?_)
            clear hK K hHeld
            have hHeld := hHeld3
            clear hHeld3
            try simp only [Act.put, List.getElem_toArray, List.getElem_cons_zero, List.getElem_cons_succ, List.setIfInBounds_toArray, List.set_cons_zero, List.set_cons_succ]
            refine wpAnyH_ready (rs := [5]) (by kernel_rfl) (by simp) ?_
            refine AllReadyH.cons (o := _) rfl (fun K hK => ?_) ?_
            · obtain ⟨w45, hw45⟩ : ∃ w9, w44.alloc (.cells #[.int .i64 xa, .int .i64 xp, .int .i64 xz] 37) = w9 := ⟨_, rfl⟩
              have b45 : Below w44.heap.size w44 w45 := by rw [← hw45]; exact balloc1 _ _
              have q45 := bnext q44 b45
              have hz45 : w45.heap.size = w44.heap.size + 1 := by rw [← hw45]; exact size_alloc _ _
              have hB45 : Blk w44.heap.size #[.int .i64 xa, .int .i64 xp, .int .i64 xz] 37 w45 := by rw [← hw45]; exact Blk.new _ _ _
              have HV := Lib.hid (HV.out.kept b45)
              have RA := Lib.hid (row_kept RA.out b45)
              have RB := Lib.hid (row_kept RB.out b45)
              have HS := Lib.hid hB45
              have HZ45 := Lib.hid hz45
              have HW45 := Lib.hid hw45
              clear hB45 hz45 hw45
              go_simp
              try rw [HW45.out]
              refine hK.out _ _ (HK.out _ q45) (fun hHeld3 => ?_)
              clear hK K hHeld
              have hHeld := hHeld3
              clear hHeld3
              try simp only [Act.put, List.getElem_toArray, List.getElem_cons_zero, List.getElem_cons_succ, List.setIfInBounds_toArray, List.set_cons_zero, List.set_cons_succ]
              refine wpAnyH_ready (rs := [10]) (by kernel_rfl) (by simp) ?_
              refine AllReadyH.cons (o := _) rfl (fun K hK => ?_) ?_
              · obtain ⟨w46, hw46⟩ : ∃ w9, w45.alloc (.cells #[.slice ad7 KA.length cp7, .slice (some ⟨w44.heap.size, 0, none⟩) 1 1, .slice ad44 KB.length cp44] 22) = w9 := ⟨_, rfl⟩
                have b46 : Below w45.heap.size w45 w46 := by rw [← hw46]; exact balloc1 _ _
                have q46 := bnext q45 b46
                have hz46 : w46.heap.size = w45.heap.size + 1 := by rw [← hw46]; exact size_alloc _ _
                have hB46 : Blk w45.heap.size #[.slice ad7 KA.length cp7, .slice (some ⟨w44.heap.size, 0, none⟩) 1 1, .slice ad44 KB.length cp44] 22 w46 := by rw [← hw46]; exact Blk.new _ _ _
                have HV := Lib.hid (HV.out.kept b46)
                have RA := Lib.hid (row_kept RA.out b46)
                have RB := Lib.hid (row_kept RB.out b46)
                have HS := Lib.hid (HS.out.kept1 b46)
                have HT := Lib.hid hB46
                have HZ46 := Lib.hid hz46
                have HW46 := Lib.hid hw46
                clear hB46 hz46 hw46
                go_simp
                try rw [HW46.out]
                refine hK.out _ _ (HK.out _ q46) (fun hHeld3 => ?_)
                clear hK K hHeld
                have hHeld := hHeld3
                clear hHeld3
                try simp only [Act.put, List.getElem_toArray, List.getElem_cons_zero, List.getElem_cons_succ, List.setIfInBounds_toArray, List.set_cons_zero, List.set_cons_succ]
                refine wpAnyH_ready (rs := [11]) (by kernel_rfl) (by simp) ?_
                refine AllReadyH.cons (o := _) rfl (fun K hK => ?_) ?_
                · go_simp
                  refine (CC.out _ _ _ _ _ HT.out (rowE_in RA.out) (one_in HS.out) (rowE_in RB.out)).mono ?_; rintro e w47 ⟨v47, rfl, r47, b47⟩
                  dsimp only
                  have q47 := bnext q46 b47
                  have HV := Lib.hid (HV.out.kept b47)
                  have RA := Lib.hid (row_kept RA.out b47)
                  have RB := Lib.hid (row_kept RB.out b47)
                  have HS := Lib.hid (HS.out.kept1 b47)
                  have HT := Lib.hid (HT.out.kept1 b47)
                  obtain ⟨ad47, cp47, hs47, -⟩ := shape_of r47
                  subst hs47
                  have RO := Lib.hid (row_down q46.size r47)
                  clear r47
                  refine hK.out _ _ (HK.out _ q47) (fun hHeld3 => ?_)
                  clear hK K hHeld
                  have hHeld := hHeld3
                  clear hHeld3
                  try simp only [Act.put, List.getElem_toArray, List.getElem_cons_zero, List.getElem_cons_succ, List.setIfInBounds_toArray, List.set_cons_zero, List.set_cons_succ]
                  refine wpAnyH_take (i := 12) (oi := _) (v := ?vtp48) rfl (by kernel_rfl) (by kernel_rfl) (by kernel_rfl) (fun _ _ _ h => h) (Or.inl ⟨by kernel_rfl, ?hytp48⟩) hHeld ?resttp48
                  case hytp48 => (intro w9 hSw; clear hSw; go_simp; try with_reducible rfl)
                  try simp only [Act.put, List.getElem_toArray, List.getElem_cons_zero, List.getElem_cons_succ, List.setIfInBounds_toArray, List.set_cons_zero, List.set_cons_succ]
                  refine ⟨by kernel_rfl, ?_⟩
                  clear hHeld
                  go_wp2
                  have HK2 : Hid (∀ W, Below w47.heap.size w47 W → W.cell? ⟨w.heap.size, 0, none⟩ = some (.int .i64 xa) ∧ W.cell? ⟨w.heap.size, 1, none⟩ = some (.int .i64 xp) ∧ W.cell? ⟨w.heap.size, 2, none⟩ = some (.int .i64 xz)) := Lib.hid fun W b => HK.out W (bnext q47 b)
                  have hqe : Below w47.heap.size w47 w47.drew := (Below.refl _ _).drew
                  have HV := Lib.hid (HV.out.kept hqe)
                  have RO := Lib.hid (row_kept RO.out hqe)
                  refine wp_region_held_drew (S := fun w9 => w9.cell? ⟨w.heap.size, 0, none⟩ = some (.int .i64 xa) ∧ w9.cell? ⟨w.heap.size, 1, none⟩ = some (.int .i64 xp) ∧ w9.cell? ⟨w.heap.size, 2, none⟩ = some (.int .i64 xz)) mixed (HK2.out _ hqe) (fun hHeld => ?_)
                  generalize w47.drew = we at *
                  refine wpAnyH_take (i := 0) (oi := _) (v := ?vtp49) rfl (by kernel_rfl) (by kernel_rfl) (by kernel_rfl) (fun _ _ _ h => h) (Or.inl ⟨by kernel_rfl, ?hytp49⟩) hHeld ?resttp49
                  case hytp49 => (intro w9 hSw; clear hSw; go_simp; try with_reducible rfl)
                  try simp only [Act.put, List.getElem_toArray, List.getElem_cons_zero, List.getElem_cons_succ, List.setIfInBounds_toArray, List.set_cons_zero, List.set_cons_succ]
                  refine wpAnyH_take (i := 1) (oi := _) (v := ?vtp50) rfl (by kernel_rfl) (by kernel_rfl) (by kernel_rfl) (fun _ _ _ h => h) (Or.inl ⟨by kernel_rfl, ?hytp50⟩) hHeld ?resttp50
                  case hytp50 => (intro w9 hSw; clear hSw; go_simp; try with_reducible rfl)
                  try simp only [Act.put, List.getElem_toArray, List.getElem_cons_zero, List.getElem_cons_succ, List.setIfInBounds_toArray, List.set_cons_zero, List.set_cons_succ]
                  refine wpAnyH_take (i := 2) (oi := _) (v := ?vtp51) rfl (by kernel_rfl) (by kernel_rfl) (by kernel_rfl) (fun _ _ _ h => h) (Or.inl ⟨by kernel_rfl, ?hytp51⟩) hHeld ?resttp51
                  case hytp51 => (intro w9 hSw; clear hSw; go_simp; try with_reducible rfl)
                  try simp only [Act.put, List.getElem_toArray, List.getElem_cons_zero, List.getElem_cons_succ, List.setIfInBounds_toArray, List.set_cons_zero, List.set_cons_succ]
                  refine wpAnyH_take (i := 3) (oi := _) (v := ?vtp52) rfl (by kernel_rfl) (by kernel_rfl) (by kernel_rfl) (fun _ _ _ h => h) (Or.inl ⟨by kernel_rfl, ?hytp52⟩) hHeld ?resttp52
                  case hytp52 => (intro w9 hSw; obtain ⟨e9, f9, g9⟩ := hSw; go_simp; try with_reducible rfl)
                  try simp only [Act.put, List.getElem_toArray, List.getElem_cons_zero, List.getElem_cons_succ, List.setIfInBounds_toArray, List.set_cons_zero, List.set_cons_succ]
                  refine wpAnyH_take (i := 4) (oi := _) (v := ?vtp53) rfl (by kernel_rfl) (by kernel_rfl) (by kernel_rfl) (fun _ _ _ h => h) (Or.inl ⟨by kernel_rfl, ?hytp53⟩) hHeld ?resttp53
                  case hytp53 => (intro w9 hSw; obtain ⟨e9, f9, g9⟩ := hSw; go_simp; try with_reducible rfl)
                  try simp only [Act.put, List.getElem_toArray, List.getElem_cons_zero, List.getElem_cons_succ, List.setIfInBounds_toArray, List.set_cons_zero, List.set_cons_succ]
                  refine wpAnyH_take (i := 7) (oi := _) (v := ?vtp54) rfl (by kernel_rfl) (by kernel_rfl) (by kernel_rfl) (fun _ _ _ h => h) (Or.inl ⟨by kernel_rfl, ?hytp54⟩) hHeld ?resttp54
                  case hytp54 => (intro w9 hSw; clear hSw; go_simp; try with_reducible rfl)
                  try simp only [Act.put, List.getElem_toArray, List.getElem_cons_zero, List.getElem_cons_succ, List.setIfInBounds_toArray, List.set_cons_zero, List.set_cons_succ]
                  refine wpAnyH_ready (rs := [5]) (by kernel_rfl) (by simp) ?_
                  refine AllReadyH.cons (o := _) rfl (fun K hK => ?_) ?_
                  · go_simp
                    refine (E.out _).mono ?_; rintro e w55 ⟨rfl, b55⟩
                    dsimp only
                    have q55 := bnext hqe b55
                    have HV := Lib.hid (HV.out.kept b55)
                    have RO := Lib.hid (row_kept RO.out b55)
                    refine hK.out _ _ (HK2.out _ q55) (fun hHeld3 => ?_)
                    clear hK K hHeld
                    have hHeld := hHeld3
                    clear hHeld3
                    try simp only [Act.put, List.getElem_toArray, List.getElem_cons_zero, List.getElem_cons_succ, List.setIfInBounds_toArray, List.set_cons_zero, List.set_cons_succ]
                    refine wpAnyH_ready (rs := [6]) (by kernel_rfl) (by simp) ?_
                    refine AllReadyH.cons (o := _) rfl (fun K hK => ?_) ?_
                    · go_simp
                      refine (W3.out _ HV.out).mono ?_; rintro e w56 ⟨v56, rfl, r56, b56⟩
                      dsimp only
                      have q56 := bnext q55 b56
                      have HV := Lib.hid (HV.out.kept b56)
                      have RO := Lib.hid (row_kept RO.out b56)
                      obtain ⟨ad56, cp56, hs56, -⟩ := shape_of r56
                      subst hs56
                      have RM := Lib.hid (row_down q55.size r56)
                      clear r56
                      refine hK.out _ _ (HK2.out _ q56) (fun hHeld3 => ?_)
                      clear hK K hHeld
                      have hHeld := hHeld3
                      clear hHeld3
                      try simp only [Act.put, List.getElem_toArray, List.getElem_cons_zero, List.getElem_cons_succ, List.setIfInBounds_toArray, List.set_cons_zero, List.set_cons_succ]
                      refine wpAnyH_ready (rs := [8]) (by kernel_rfl) (by simp) ?_
                      refine AllReadyH.cons (o := _) rfl (fun K hK => ?_) ?_
                      · go_simp
                        refine (L.out _ _ _ (rowE_in RM.out) (rowE_in RO.out)).mono ?_; rintro e w57 ⟨v57, rfl, r57, b57⟩
                        dsimp only
                        have q57 := bnext q56 b57
                        have HV := Lib.hid (HV.out.kept b57)
                        have RO := Lib.hid (row_kept RO.out b57)
                        have RM := Lib.hid (row_kept RM.out b57)
                        obtain ⟨ad57, cp57, hs57, -⟩ := shape_of r57
                        subst hs57
                        have RF := Lib.hid (row_down q56.size r57)
                        clear r57
                        refine hK.out _ _ (HK2.out _ q57) (fun hHeld3 => ?_)
                        clear hK K hHeld
                        have hHeld := hHeld3
                        clear hHeld3
                        try simp only [Act.put, List.getElem_toArray, List.getElem_cons_zero, List.getElem_cons_succ, List.setIfInBounds_toArray, List.set_cons_zero, List.set_cons_succ]
                        refine wpAnyH_take (i := 9) (oi := _) (v := ?vtp58) rfl (by kernel_rfl) (by kernel_rfl) (by kernel_rfl) (fun _ _ _ h => h) (Or.inl ⟨by kernel_rfl, ?hytp58⟩) hHeld ?resttp58
                        case hytp58 => (intro w9 hSw; clear hSw; go_simp; try with_reducible rfl)
                        try simp only [Act.put, List.getElem_toArray, List.getElem_cons_zero, List.getElem_cons_succ, List.setIfInBounds_toArray, List.set_cons_zero, List.set_cons_succ]
                        refine wpAnyH_take (i := 10) (oi := _) (v := ?vtp59) rfl (by kernel_rfl) (by kernel_rfl) (by kernel_rfl) (fun _ _ _ h => h) (Or.inl ⟨by kernel_rfl, ?hytp59⟩) hHeld ?resttp59
                        case hytp59 => (intro w9 hSw; clear hSw; go_simp; try with_reducible rfl)
                        try simp only [Act.put, List.getElem_toArray, List.getElem_cons_zero, List.getElem_cons_succ, List.setIfInBounds_toArray, List.set_cons_zero, List.set_cons_succ]
                        refine wpAnyH_take (i := 11) (oi := _) (v := ?vtp60) rfl (by kernel_rfl) (by kernel_rfl) (by kernel_rfl) (fun _ _ _ h => h) (Or.inl ⟨by kernel_rfl, ?hytp60⟩) hHeld ?resttp60
                        case hytp60 => (intro w9 hSw; clear hSw; go_simp; try with_reducible rfl)
                        try simp only [Act.put, List.getElem_toArray, List.getElem_cons_zero, List.getElem_cons_succ, List.setIfInBounds_toArray, List.set_cons_zero, List.set_cons_succ]
                        refine ⟨by kernel_rfl, ?_⟩
                        clear hHeld
                        have HBZ := hb2.trans (q47.mono hb2.size)
                        have HBY := bnext HBZ q57
                        go_wp2
                        go_ret3
                        exact ⟨_, _, rfl, row_down hb2.size RO.out, row_down (by have := HBZ.size; omega) RF.out, HBY⟩
                      exact AllReadyH.nil
                    exact AllReadyH.nil
                  exact AllReadyH.nil
                exact AllReadyH.nil
              exact AllReadyH.nil
            exact AllReadyH.nil
          exact AllReadyH.nil
        exact AllReadyH.nil
      refine AllReadyH.cons (o := _) rfl (fun K hK => ?_) ?_
      · obtain ⟨w61, hw61⟩ : ∃ w9, wd.alloc (.cells #[.int .i64 xa, .int .i64 xp, .int .i64 xz] 37) = w9 := ⟨_, rfl⟩
        have b61 : Below wd.heap.size wd w61 := by rw [← hw61]; exact balloc1 _ _
        have q61 := bnext hqd b61
        have hz61 : w61.heap.size = wd.heap.size + 1 := by rw [← hw61]; exact size_alloc _ _
        have hB61 : Blk wd.heap.size #[.int .i64 xa, .int .i64 xp, .int .i64 xz] 37 w61 := by rw [← hw61]; exact Blk.new _ _ _
        have HV := Lib.hid (HV.out.kept b61)
        have HS := Lib.hid hB61
        have HZ61 := Lib.hid hz61
        have HW61 := Lib.hid hw61
        clear hB61 hz61 hw61
        go_simp
        try rw [HW61.out]
        refine hK.out _ _ (HK.out _ q61) (fun hHeld3 => ?_)
        clear hK K hHeld
        have hHeld := hHeld3
        clear hHeld3
        try simp only [Act.put, List.getElem_toArray, List.getElem_cons_zero, List.getElem_cons_succ, List.setIfInBounds_toArray, List.set_cons_zero, List.set_cons_succ]
        refine wpAnyH_ready (rs := [3]) (by kernel_rfl) (by simp) ?_
        refine AllReadyH.cons (o := _) rfl (fun K hK => ?_) ?_
        · go_simp
          refine (W1.out _ HV.out).mono ?_; rintro e w62 ⟨v62, rfl, r62, b62⟩
          dsimp only
          have q62 := bnext q61 b62
          have HV := Lib.hid (HV.out.kept b62)
          have HS := Lib.hid (HS.out.kept1 b62)
          obtain ⟨ad62, cp62, hs62, -⟩ := shape_of r62
          subst hs62
          have RA := Lib.hid (row_down q61.size r62)
          clear r62
          refine hK.out _ _ (HK.out _ q62) (fun hHeld3 => ?_)
          clear hK K hHeld
          have hHeld := hHeld3
          clear hHeld3
          try simp only [Act.put, List.getElem_toArray, List.getElem_cons_zero, List.getElem_cons_succ, List.setIfInBounds_toArray, List.set_cons_zero, List.set_cons_succ]
          refine wpAnyH_ready (rs := [8]) (by kernel_rfl) (by simp) ?_
          refine AllReadyH.cons (o := _) rfl (fun K hK => ?_) ?_
          · go_simp
            refine (E.out _).mono ?_; rintro e w63 ⟨rfl, b63⟩
            dsimp only
            have q63 := bnext q62 b63
            have HV := Lib.hid (HV.out.kept b63)
            have HS := Lib.hid (HS.out.kept1 b63)
            have RA := Lib.hid (row_kept RA.out b63)
            refine hK.out _ _ (HK.out _ q63) (fun hHeld3 => ?_)
            clear hK K hHeld
            have hHeld := hHeld3
            clear hHeld3
            try simp only [Act.put, List.getElem_toArray, List.getElem_cons_zero, List.getElem_cons_succ, List.setIfInBounds_toArray, List.set_cons_zero, List.set_cons_succ]
            refine wpAnyH_ready (rs := [9]) (by kernel_rfl) (by simp) ?_
            refine AllReadyH.cons (o := _) rfl (fun K hK => ?_) ?_
            · go_simp
              refine (W2.out _ HV.out).mono ?_; rintro e w64 ⟨v64, rfl, r64, b64⟩
              dsimp only
              have q64 := bnext q63 b64
              have HV := Lib.hid (HV.out.kept b64)
              have HS := Lib.hid (HS.out.kept1 b64)
              have RA := Lib.hid (row_kept RA.out b64)
              obtain ⟨ad64, cp64, hs64, -⟩ := shape_of r64
              subst hs64
              have RB := Lib.hid (row_down q63.size r64)
              clear r64
              refine hK.out _ _ (HK.out _ q64) (fun hHeld3 => ?_)
              clear hK K hHeld
              have hHeld := hHeld3
              clear hHeld3
              try simp only [Act.put, List.getElem_toArray, List.getElem_cons_zero, List.getElem_cons_succ, List.setIfInBounds_toArray, List.set_cons_zero, List.set_cons_succ]
              refine wpAnyH_ready (rs := [10]) (by kernel_rfl) (by simp) ?_
              refine AllReadyH.cons (o := _) rfl (fun K hK => ?_) ?_
              · obtain ⟨w65, hw65⟩ : ∃ w9, w64.alloc (.cells #[.slice ad62 KA.length cp62, .slice (some ⟨wd.heap.size, 0, none⟩) 1 1, .slice ad64 KB.length cp64] 22) = w9 := ⟨_, rfl⟩
                have b65 : Below w64.heap.size w64 w65 := by rw [← hw65]; exact balloc1 _ _
                have q65 := bnext q64 b65
                have hz65 : w65.heap.size = w64.heap.size + 1 := by rw [← hw65]; exact size_alloc _ _
                have hB65 : Blk w64.heap.size #[.slice ad62 KA.length cp62, .slice (some ⟨wd.heap.size, 0, none⟩) 1 1, .slice ad64 KB.length cp64] 22 w65 := by rw [← hw65]; exact Blk.new _ _ _
                have HV := Lib.hid (HV.out.kept b65)
                have HS := Lib.hid (HS.out.kept1 b65)
                have RA := Lib.hid (row_kept RA.out b65)
                have RB := Lib.hid (row_kept RB.out b65)
                have HT := Lib.hid hB65
                have HZ65 := Lib.hid hz65
                have HW65 := Lib.hid hw65
                clear hB65 hz65 hw65
                go_simp
                try rw [HW65.out]
                refine hK.out _ _ (HK.out _ q65) (fun hHeld3 => ?_)
                clear hK K hHeld
                have hHeld := hHeld3
                clear hHeld3
                try simp only [Act.put, List.getElem_toArray, List.getElem_cons_zero, List.getElem_cons_succ, List.setIfInBounds_toArray, List.set_cons_zero, List.set_cons_succ]
                refine wpAnyH_ready (rs := [11]) (by kernel_rfl) (by simp) ?_
                refine AllReadyH.cons (o := _) rfl (fun K hK => ?_) ?_
                · go_simp
                  refine (CC.out _ _ _ _ _ HT.out (rowE_in RA.out) (one_in HS.out) (rowE_in RB.out)).mono ?_; rintro e w66 ⟨v66, rfl, r66, b66⟩
                  dsimp only
                  have q66 := bnext q65 b66
                  have HV := Lib.hid (HV.out.kept b66)
                  have HS := Lib.hid (HS.out.kept1 b66)
                  have RA := Lib.hid (row_kept RA.out b66)
                  have RB := Lib.hid (row_kept RB.out b66)
                  have HT := Lib.hid (HT.out.kept1 b66)
                  obtain ⟨ad66, cp66, hs66, -⟩ := shape_of r66
                  subst hs66
                  have RO := Lib.hid (row_down q65.size r66)
                  clear r66
                  refine hK.out _ _ (HK.out _ q66) (fun hHeld3 => ?_)
                  clear hK K hHeld
                  have hHeld := hHeld3
                  clear hHeld3
                  try simp only [Act.put, List.getElem_toArray, List.getElem_cons_zero, List.getElem_cons_succ, List.setIfInBounds_toArray, List.set_cons_zero, List.set_cons_succ]
                  refine wpAnyH_take (i := 12) (oi := _) (v := ?vtp67) rfl (by kernel_rfl) (by kernel_rfl) (by kernel_rfl) (fun _ _ _ h => h) (Or.inl ⟨by kernel_rfl, ?hytp67⟩) hHeld ?resttp67
                  case hytp67 => (intro w9 hSw; clear hSw; go_simp; try with_reducible rfl)
                  try simp only [Act.put, List.getElem_toArray, List.getElem_cons_zero, List.getElem_cons_succ, List.setIfInBounds_toArray, List.set_cons_zero, List.set_cons_succ]
                  refine ⟨by kernel_rfl, ?_⟩
                  clear hHeld
                  go_wp2
                  have HK2 : Hid (∀ W, Below w66.heap.size w66 W → W.cell? ⟨w.heap.size, 0, none⟩ = some (.int .i64 xa) ∧ W.cell? ⟨w.heap.size, 1, none⟩ = some (.int .i64 xp) ∧ W.cell? ⟨w.heap.size, 2, none⟩ = some (.int .i64 xz)) := Lib.hid fun W b => HK.out W (bnext q66 b)
                  have hqe : Below w66.heap.size w66 w66.drew := (Below.refl _ _).drew
                  have HV := Lib.hid (HV.out.kept hqe)
                  have RO := Lib.hid (row_kept RO.out hqe)
                  refine wp_region_held_drew (S := fun w9 => w9.cell? ⟨w.heap.size, 0, none⟩ = some (.int .i64 xa) ∧ w9.cell? ⟨w.heap.size, 1, none⟩ = some (.int .i64 xp) ∧ w9.cell? ⟨w.heap.size, 2, none⟩ = some (.int .i64 xz)) mixed (HK2.out _ hqe) (fun hHeld => ?_)
                  generalize w66.drew = we at *
                  refine wpAnyH_take (i := 0) (oi := _) (v := ?vtp68) rfl (by kernel_rfl) (by kernel_rfl) (by kernel_rfl) (fun _ _ _ h => h) (Or.inl ⟨by kernel_rfl, ?hytp68⟩) hHeld ?resttp68
                  case hytp68 => (intro w9 hSw; clear hSw; go_simp; try with_reducible rfl)
                  try simp only [Act.put, List.getElem_toArray, List.getElem_cons_zero, List.getElem_cons_succ, List.setIfInBounds_toArray, List.set_cons_zero, List.set_cons_succ]
                  refine wpAnyH_take (i := 1) (oi := _) (v := ?vtp69) rfl (by kernel_rfl) (by kernel_rfl) (by kernel_rfl) (fun _ _ _ h => h) (Or.inl ⟨by kernel_rfl, ?hytp69⟩) hHeld ?resttp69
                  case hytp69 => (intro w9 hSw; clear hSw; go_simp; try with_reducible rfl)
                  try simp only [Act.put, List.getElem_toArray, List.getElem_cons_zero, List.getElem_cons_succ, List.setIfInBounds_toArray, List.set_cons_zero, List.set_cons_succ]
                  refine wpAnyH_take (i := 2) (oi := _) (v := ?vtp70) rfl (by kernel_rfl) (by kernel_rfl) (by kernel_rfl) (fun _ _ _ h => h) (Or.inl ⟨by kernel_rfl, ?hytp70⟩) hHeld ?resttp70
                  case hytp70 => (intro w9 hSw; clear hSw; go_simp; try with_reducible rfl)
                  try simp only [Act.put, List.getElem_toArray, List.getElem_cons_zero, List.getElem_cons_succ, List.setIfInBounds_toArray, List.set_cons_zero, List.set_cons_succ]
                  refine wpAnyH_take (i := 3) (oi := _) (v := ?vtp71) rfl (by kernel_rfl) (by kernel_rfl) (by kernel_rfl) (fun _ _ _ h => h) (Or.inl ⟨by kernel_rfl, ?hytp71⟩) hHeld ?resttp71
                  case hytp71 => (intro w9 hSw; obtain ⟨e9, f9, g9⟩ := hSw; go_simp; try with_reducible rfl)
                  try simp only [Act.put, List.getElem_toArray, List.getElem_cons_zero, List.getElem_cons_succ, List.setIfInBounds_toArray, List.set_cons_zero, List.set_cons_succ]
                  refine wpAnyH_take (i := 4) (oi := _) (v := ?vtp72) rfl (by kernel_rfl) (by kernel_rfl) (by kernel_rfl) (fun _ _ _ h => h) (Or.inl ⟨by kernel_rfl, ?hytp72⟩) hHeld ?resttp72
                  case hytp72 => (intro w9 hSw; obtain ⟨e9, f9, g9⟩ := hSw; go_simp; try with_reducible rfl)
                  try simp only [Act.put, List.getElem_toArray, List.getElem_cons_zero, List.getElem_cons_succ, List.setIfInBounds_toArray, List.set_cons_zero, List.set_cons_succ]
                  refine wpAnyH_take (i := 7) (oi := _) (v := ?vtp73) rfl (by kernel_rfl) (by kernel_rfl) (by kernel_rfl) (fun _ _ _ h => h) (Or.inl ⟨by kernel_rfl, ?hytp73⟩) hHeld ?resttp73
                  case hytp73 => (intro w9 hSw; clear hSw; go_simp; try with_reducible rfl)
                  try simp only [Act.put, List.getElem_toArray, List.getElem_cons_zero, List.getElem_cons_succ, List.setIfInBounds_toArray, List.set_cons_zero, List.set_cons_succ]
                  refine wpAnyH_ready (rs := [5]) (by kernel_rfl) (by simp) ?_
                  refine AllReadyH.cons (o := _) rfl (fun K hK => ?_) ?_
                  · go_simp
                    refine (E.out _).mono ?_; rintro e w74 ⟨rfl, b74⟩
                    dsimp only
                    have q74 := bnext hqe b74
                    have HV := Lib.hid (HV.out.kept b74)
                    have RO := Lib.hid (row_kept RO.out b74)
                    refine hK.out _ _ (HK2.out _ q74) (fun hHeld3 => ?_)
                    clear hK K hHeld
                    have hHeld := hHeld3
                    clear hHeld3
                    try simp only [Act.put, List.getElem_toArray, List.getElem_cons_zero, List.getElem_cons_succ, List.setIfInBounds_toArray, List.set_cons_zero, List.set_cons_succ]
                    refine wpAnyH_ready (rs := [6]) (by kernel_rfl) (by simp) ?_
                    refine AllReadyH.cons (o := _) rfl (fun K hK => ?_) ?_
                    · go_simp
                      refine (W3.out _ HV.out).mono ?_; rintro e w75 ⟨v75, rfl, r75, b75⟩
                      dsimp only
                      have q75 := bnext q74 b75
                      have HV := Lib.hid (HV.out.kept b75)
                      have RO := Lib.hid (row_kept RO.out b75)
                      obtain ⟨ad75, cp75, hs75, -⟩ := shape_of r75
                      subst hs75
                      have RM := Lib.hid (row_down q74.size r75)
                      clear r75
                      refine hK.out _ _ (HK2.out _ q75) (fun hHeld3 => ?_)
                      clear hK K hHeld
                      have hHeld := hHeld3
                      clear hHeld3
                      try simp only [Act.put, List.getElem_toArray, List.getElem_cons_zero, List.getElem_cons_succ, List.setIfInBounds_toArray, List.set_cons_zero, List.set_cons_succ]
                      refine wpAnyH_ready (rs := [8]) (by kernel_rfl) (by simp) ?_
                      refine AllReadyH.cons (o := _) rfl (fun K hK => ?_) ?_
                      · go_simp
                        refine (L.out _ _ _ (rowE_in RM.out) (rowE_in RO.out)).mono ?_; rintro e w76 ⟨v76, rfl, r76, b76⟩
                        dsimp only
                        have q76 := bnext q75 b76
                        have HV := Lib.hid (HV.out.kept b76)
                        have RO := Lib.hid (row_kept RO.out b76)
                        have RM := Lib.hid (row_kept RM.out b76)
                        obtain ⟨ad76, cp76, hs76, -⟩ := shape_of r76
                        subst hs76
                        have RF := Lib.hid (row_down q75.size r76)
                        clear r76
                        refine hK.out _ _ (HK2.out _ q76) (fun hHeld3 => ?_)
                        clear hK K hHeld
                        have hHeld := hHeld3
                        clear hHeld3
                        try simp only [Act.put, List.getElem_toArray, List.getElem_cons_zero, List.getElem_cons_succ, List.setIfInBounds_toArray, List.set_cons_zero, List.set_cons_succ]
                        refine wpAnyH_take (i := 9) (oi := _) (v := ?vtp77) rfl (by kernel_rfl) (by kernel_rfl) (by kernel_rfl) (fun _ _ _ h => h) (Or.inl ⟨by kernel_rfl, ?hytp77⟩) hHeld ?resttp77
                        case hytp77 => (intro w9 hSw; clear hSw; go_simp; try with_reducible rfl)
                        try simp only [Act.put, List.getElem_toArray, List.getElem_cons_zero, List.getElem_cons_succ, List.setIfInBounds_toArray, List.set_cons_zero, List.set_cons_succ]
                        refine wpAnyH_take (i := 10) (oi := _) (v := ?vtp78) rfl (by kernel_rfl) (by kernel_rfl) (by kernel_rfl) (fun _ _ _ h => h) (Or.inl ⟨by kernel_rfl, ?hytp78⟩) hHeld ?resttp78
                        case hytp78 => (intro w9 hSw; clear hSw; go_simp; try with_reducible rfl)
                        try simp only [Act.put, List.getElem_toArray, List.getElem_cons_zero, List.getElem_cons_succ, List.setIfInBounds_toArray, List.set_cons_zero, List.set_cons_succ]
                        refine wpAnyH_take (i := 11) (oi := _) (v := ?vtp79) rfl (by kernel_rfl) (by kernel_rfl) (by kernel_rfl) (fun _ _ _ h => h) (Or.inl ⟨by kernel_rfl, ?hytp79⟩) hHeld ?resttp79
                        case hytp79 => (intro w9 hSw; clear hSw; go_simp; try with_reducible rfl)
                        try simp only [Act.put, List.getElem_toArray, List.getElem_cons_zero, List.getElem_cons_succ, List.setIfInBounds_toArray, List.set_cons_zero, List.set_cons_succ]
                        refine ⟨by kernel_rfl, ?_⟩
                        clear hHeld
                        have HBZ := hb2.trans (q66.mono hb2.size)
                        have HBY := bnext HBZ q76
                        go_wp2
                        go_ret3
                        exact ⟨_, _, rfl, row_down hb2.size RO.out, row_down (by have := HBZ.size; omega) RF.out, HBY⟩
                      exact AllReadyH.nil
                    exact AllReadyH.nil
                  exact AllReadyH.nil
                exact AllReadyH.nil
              exact AllReadyH.nil
            exact AllReadyH.nil
          exact AllReadyH.nil
        exact AllReadyH.nil
      exact AllReadyH.nil
    · rw [decide_eq_false h2] at V
      have V := Lib.hid V
      obtain ⟨e1, e2, e3⟩ := put_no (l := l) (x := x) fun h => h2 h.2
      rw [e1, e2, e3]
      clear h1 h2 e1 e2 e3
      obtain ⟨ad, cap, rfl, -⟩ := entsIn_cells hv
      obtain ⟨xa, xp, xz⟩ := x
      dsimp only at *
      go_enter Try.func25, Try.ntmps25
      go_wp2_with fail
      refine (C.out _ HV.out).mono ?_; rintro e w1 ⟨rfl, b1⟩
      have hb1 := bnext hb0 b1
      have HX := Lib.hid (HX.out.kept1 b1)
      have x0 := HX.out.cell 0
      have x1 := HX.out.cell 1
      have x2 := HX.out.cell 2
      simp only [List.getElem?_toArray, List.getElem?_cons_zero, List.getElem?_cons_succ] at x0 x1 x2
      clear b1 C
      go_wp2_with fail
      refine (V.out _).mono ?_; rintro e w2 ⟨rfl, b2⟩
      have hb2 := bnext hb1 b2
      go_wp2
      go_ret3
      exact ⟨_, _, rfl, World.ownsRow_nil _ _ _ _, World.ownsRow_nil _ _ _ _, hb2⟩
  · rw [decide_eq_false h1] at C
    have C := Lib.hid C
    obtain ⟨e1, e2, e3⟩ := put_no (l := l) (x := x) fun h => h1 h.1
    rw [e1, e2, e3]
    clear h1 e1 e2 e3 V
    obtain ⟨ad, cap, rfl, -⟩ := entsIn_cells hv
    go_enter Try.func25, Try.ntmps25
    go_wp2_with fail
    refine (C.out _ HV.out).mono ?_; rintro e w1 ⟨rfl, b1⟩
    have hb1 := bnext hb0 b1
    go_wp2
    go_ret3
    exact ⟨_, _, rfl, World.ownsRow_nil _ _ _ _, World.ownsRow_nil _ _ _ _, hb1⟩
end Go.Proofs.Ytgcbfiecgiijkaa
