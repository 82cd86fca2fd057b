/- The document's Blocks, Change. -/
import Derived.Test.YtgcbfiecgiijkaaTPunch
import Derived.Test.YtgcbfiecgiijkaaRRef2
namespace Go.Proofs.Ytgcbfiecgiijkaa
set_option linter.unusedVariables false
set_option linter.unusedSimpArgs false
open Go.RowKit Go.Shelf

set_option maxRecDepth 100000 in
set_option maxHeartbeats 4000000 in
theorem rblocks_any (l : List Ent) (hf : fitE l) (hl : l.length ≤ 450) (v : Value) (w : World) (hv : EntsIn v l w) :
    Calls Try.prog 15 #[v] w fun e w' => ∃ v', e = .returned v' ∧ RunsAt w.heap.size v' (blocksV l) w' ∧ Below w.heap.size w w' := by
  have mixed : Try.prog.follows .mixedOrders = true := by kernel_rfl
  have C := fun w hv => xrcheck_any l hf (by omega) v w hv
  have HV := Lib.hid hv
  obtain ⟨ad, cap, rfl, c1, c2, c3, -⟩ := entsIn_cells hv
  have H3 := Lib.hid c3
  clear c3 hv
  unfold blocksV
  by_cases hok : RowOk true l
  · rw [decide_eq_true hok] at C
    have C := Lib.hid C
    rw [if_pos hok]
    have hr := (row_rise l).1 hok
    have N := Lib.hid fun v W hv => rnorm_any (physR l) (fitR_phys fun e he => (hr.mem e he).1) (by rw [phys_len]; omega) v W hv
    have HT : Hid (∀ k, k < l.length → physR (l.take (k + 1)) = physR (l.take k) ++ [((eat l k).phys, (eat l k).len)]) := Lib.hid fun k hk => phys_take hk
    have HN : Hid (∀ k, k ≤ l.length → (physR (l.take k)).length = k) := Lib.hid fun k hk => by rw [phys_len, List.length_take]; omega
    have H0 : Hid (physR (l.take 0) = []) := Lib.hid rfl
    have HF : Hid (physR (l.take l.length) = physR l) := Lib.hid (by rw [List.take_length])
    obtain ⟨P, hP⟩ : ∃ P : Nat → List (Int × Int), P = fun k => physR (l.take k) := ⟨_, rfl⟩
    have HT : Hid (∀ k, k < l.length → P (k + 1) = P k ++ [((eat l k).phys, (eat l k).len)]) := Lib.hid (by rw [hP]; exact HT.out)
    have HN : Hid (∀ k, k ≤ l.length → (P k).length = k) := Lib.hid (by rw [hP]; exact HN.out)
    have H0 : Hid (P 0 = []) := Lib.hid (by rw [hP]; exact H0.out)
    have HF : Hid (P l.length = physR l) := Lib.hid (by rw [hP]; exact HF.out)
    have HB : Hid (normR (physR l) = blocksX l) := Lib.hid rfl
    rw [← HB.out]
    clear hP hok hr HB
    go_enter Try.func15, Try.ntmps15
    go_wp2_with fail
    refine (C.out _ HV.out).mono ?_; rintro e w1 ⟨rfl, b1⟩
    clear C HV
    go_wp2
    go_loopw [3, 4] (fun vo p wr => ∃ k : Nat, p = .int .i64 k ∧ k ≤ l.length ∧ Hid (RunsAt w.heap.size vo (P k) wr) ∧ Below w.heap.size w wr) (fun _ p _ => l.length - (intOf p).toNat)
    case atStart => exact ⟨0, rfl, Nat.zero_le _, Lib.hid (by rw [H0.out]; exact World.ownsRow_nil _ _ _ _), b1⟩
    case round =>
      clear b1
      obtain ⟨k, rfl, hk, HO, hb⟩ := hrel
      by_cases hlt : k < l.length
      · obtain ⟨g, o, rfl, hg, hc⟩ := H3.out (by omega)
        have HE := Lib.hid (HT.out k hlt)
        have hln := HN.out k hk
        have k1 := fun p : BelowP wr => (hc p.to (hb.trans (p.h.mono hb.size)) k hlt).2.1
        have k2 := fun p : BelowP wr => (hc p.to (hb.trans (p.h.mono hb.size)) k hlt).2.2
        clear hc H3 HT HN
        generalize P k = out at *
        generalize eat l k = y at *
        obtain ⟨ya, yp, yz⟩ := y
        dsimp only at *
        have hlen : out.length ≤ 4000 := by omega
        clear hln
        go_wp2
        refine wp_region_mix 12 mixed (by kernel_rfl) (v := ?vmix1) rfl (fun _ _ _ h => h) (Or.inl ⟨by kernel_rfl, ?hymix1⟩) ?restmix1
        case hymix1 => (intro w9 _; go_simp; try with_reducible rfl)
        simp only [List.take_succ_cons, List.take_zero, List.drop_succ_cons, List.drop_zero]
        try simp only [Act.put, List.setIfInBounds_toArray, List.set_cons_zero, List.set_cons_succ]
        repeat (go_big_quiet_step (fail))
        refine wpQuiet_nil ?_
        intro w0q hw'
        obtain ⟨⟨wq, bq⟩, hw''⟩ := hw'
        have hw2 : wq = w0q := hw''.symm
        clear hw''
        subst hw2
        have hb2 := bnext hb bq
        have HO2 := Lib.hid (row_kept HO.out bq)
        have hs2 := hb2.size
        clear HO hb k1 k2
        go_wp2_with (at_builtin; refine wpList_app rfl _ _ rfl w.heap.size _ out rfl (HO2.out.alloc _) ⟨wq.heap.size, 0, none⟩ 1 1 [(yp, yz)] rfl rfl (new_cells1 _ _ _) (by omega) (by rw [size_alloc]; omega) ?_)
        intro v' w4 h4 b4
        have h4 := Lib.hid h4
        have hb4 := (balloc hb2 _).trans b4
        clear HO2 hb2 b4
        go_wp2
        exact ⟨⟨k + 1, by go_num, by omega, Lib.hid (by rw [HE.out]; exact h4.out), hb4⟩, by simp [intOf]; omega⟩
      · obtain rfl : k = l.length := by omega
        have HI := Lib.hid (runsAt_in HO.out)
        rw [HF.out] at HI
        obtain ⟨ad2, cap2, rfl, -⟩ := id HI.out
        have hs := hb.size
        clear HO HT HN
        go_wp2_with fail
        refine (N.out _ _ HI.out).mono ?_; rintro e w5 ⟨v5, rfl, h5, b5⟩
        have h5 := Lib.hid (row_down hs h5)
        go_wp2
        go_ret
        exact ⟨_, rfl, h5.out, bnext hb b5⟩
  · rw [decide_eq_false hok] at C
    have C := Lib.hid C
    rw [if_neg hok]
    clear hok H3
    go_enter Try.func15, Try.ntmps15
    go_wp2_with fail
    refine (C.out _ HV.out).mono ?_; rintro e w1 ⟨rfl, b1⟩
    go_wp2
    go_ret
    exact ⟨_, rfl, World.ownsRow_nil _ _ _ _, b1⟩
/-! change -/
set_option maxRecDepth 100000 in
set_option maxHeartbeats 8000000 in
theorem rchange_any (l : List Ent) (hr : Rise 0 l) (hl : l.length ≤ 200) (a b : Int) (ha : I64 a) (hb0 : I64 b) (m : List Ent) (hm : m.length ≤ 10) (hO : Rise 0 (change l a b m)) (v vm : Value) (w : World) (hv : EntsIn v l w) (hvm : EntsIn vm m w) :
    Calls Try.prog 47 #[v, .int .i64 a, .int .i64 b, vm] w fun e w' => ∃ vo vf, e = .returned (.tuple #[vo, vf]) ∧ ExtsAt w.heap.size vo (change l a b m) w' ∧ RunsAt w.heap.size vf (freedX l (change l a b m)) w' ∧ Below w.heap.size w w' := by
  have hok : ∀ e ∈ l, EntOk true e := fun e he => (hr.mem e he).1
  have B1 := fun W hv => rblocks_any l (ok_fit hok) (by omega) v W hv
  have hcl := change_len l a b m
  have B2 := fun u W hu => rblocks_any (change l a b m) (ok_fit fun e he => (hO.mem e he).1) (by omega) u W hu
  unfold blocksV at B1 B2
  rw [if_pos ((row_rise l).2 hr)] at B1
  rw [if_pos ((row_rise _).2 hO)] at B2
  have hlr : (blocksX l).length ≤ 200 := by have := norm_len (physR l); rw [phys_len] at this; unfold blocksX; omega
  have hlo : (blocksX (change l a b m)).length ≤ 410 := by have := norm_len (physR (change l a b m)); rw [phys_len] at this; unfold blocksX; omega
  have MN := fun v u W hv hu => rminus_any (blocksX l) (blocksX (change l a b m)) (fit_norm _) (fit_norm _) (by omega) v u W hv hu
  rw [freed_is] at MN
  have MN := Lib.hid MN
  have B1 := Lib.hid B1
  have B2 := Lib.hid B2
  have HV := Lib.hid hv
  have HM := Lib.hid hvm
  have HOK := Lib.hid hok
  have HK0 := keep_len l 0 a
  have hKM : (keep l 0 a ++ m).length ≤ 210 := by rw [List.length_append]; omega
  have H1 : Hid ([] ++ keep (l.drop 0) 0 a = keep l 0 a) := Lib.hid rfl
  have H2 : Hid ((keep l 0 a ++ m) ++ keep (l.drop 0) b 2048 = change l a b m) := Lib.hid (by unfold change; rw [List.append_assoc]; rfl)
  obtain ⟨ad, cap, rfl, c1, c2, c3, -⟩ := entsIn_cells hv
  obtain ⟨adm, capm, rfl, -⟩ := entsIn_cells hvm
  have H3 := Lib.hid c3
  obtain ⟨ha1, ha2⟩ := ha
  obtain ⟨hb1, hb2⟩ := hb0
  clear c3 hv hvm hok hlr hlo hr hO
  go_enter Try.func47, Try.ntmps47
  go_wp2
  go_loopw [10, 11, 12, 13] (fun vo p p12 p13 wr => ∃ (k : Nat) (out : List Ent), p = .int .i64 k ∧ k ≤ l.length ∧ out.length ≤ k ∧ Hid (out ++ keep (l.drop k) 0 a = keep l 0 a) ∧ Hid (ExtsAt w.heap.size vo out wr) ∧ Below w.heap.size w wr) (fun _ p _ _ _ => l.length - (intOf p).toNat)
  case atStart => exact ⟨0, [], rfl, Nat.zero_le _, Nat.zero_le _, H1, Lib.hid (World.ownsRow_nil _ _ _ _), Below.refl _ _⟩
  case round =>
    obtain ⟨k, out, rfl, hk, hol, HR, HO, hb⟩ := hrel
    by_cases hlt : k < l.length
    · obtain ⟨g, o, rfl, hg, hc⟩ := H3.out (by omega)
      obtain ⟨x1, x2, x3⟩ := hc wr hb k hlt
      have hoky := HOK.out _ (eat_mem hlt)
      have P := fun W => rpart_any (eat l k) hoky 0 a ⟨by omega, by omega⟩ ⟨by omega, by omega⟩ W
      have hd : keep (l.drop k) 0 a = (part (eat l k) 0 a).toList ++ keep (l.drop (k + 1)) 0 a := by rw [drop_eat hlt, keep_cons]
      have HRo := HR.out
      rw [hd] at HRo
      have hlen : out.length ≤ 4000 := by omega
      clear hc hoky hd HR
      cases ho : part (eat l k) 0 a with
      | none =>
        rw [ho] at P HRo
        have P := Lib.hid P
        have HRN : Hid (out ++ keep (l.drop (k + 1)) 0 a = keep l 0 a) := Lib.hid HRo
        clear HRo ho
        generalize eat l k = y at *
        obtain ⟨ya, yp, yz⟩ := y
        dsimp only at *
        go_wp2_with fail
        refine (P.out _).mono ?_; rintro e w5 ⟨rfl, b5⟩
        have hb5 := balloc (bnext hb b5) (.cells (entC noE) 37)
        have HO5 := Lib.hid ((row_kept HO.out b5).alloc (.cells (entC noE) 37))
        clear x1 x2 x3 hb HO b5
        dsimp only [Option.getD_none, Option.isSome_none, noE] at *
        go_wp2
        exact ⟨⟨k + 1, out, by go_num, by omega, by omega, HRN, HO5, hb5⟩, by simp [intOf]; omega⟩
      | some z =>
        rw [ho] at P HRo
        have P := Lib.hid P
        have HRN : Hid ((out ++ [z]) ++ keep (l.drop (k + 1)) 0 a = keep l 0 a) := Lib.hid (by rw [← HRo]; simp)
        clear HRo ho
        generalize eat l k = y at *
        obtain ⟨ya, yp, yz⟩ := y
        obtain ⟨za, zp, zz⟩ := z
        dsimp only at *
        go_wp2_with fail
        refine (P.out _).mono ?_; rintro e w5 ⟨rfl, b5⟩
        have hb5 := balloc (bnext hb b5) (.cells #[.int .i64 za, .int .i64 zp, .int .i64 zz] 37)
        have HO5 := Lib.hid ((row_kept HO.out b5).alloc (.cells #[.int .i64 za, .int .i64 zp, .int .i64 zz] 37))
        have kz := Blk.new #[.int .i64 za, .int .i64 zp, .int .i64 zz] 37 w5
        have z0 := kz.cell 0
        have z1 := kz.cell 1
        have z2 := kz.cell 2
        simp only [List.getElem?_toArray, List.getElem?_cons_zero, List.getElem?_cons_succ] at z0 z1 z2
        have hs5 := hb5.size
        clear x1 x2 x3 hb HO b5 kz
        dsimp only [Option.getD_some, Option.isSome_some] at *
        go_upto_region 7 with fail
        generalize w5.alloc (.cells #[.int .i64 za, .int .i64 zp, .int .i64 zz] 37) = w6 at *
        go_wp2_with (at_builtin; refine wpList_app3 rfl _ _ 22 37 rfl Try.underlying22 ext_info w.heap.size _ out ⟨za, zp, zz⟩ rfl (HO5.out.alloc _) w6 rfl _ rfl rfl (by omega) (by rw [size_alloc]; omega) ?_)
        intro v' w7 h7 g7
        have hb7 := (balloc hb5 _).trans (below_of_row (HO5.out.alloc _) g7 (by rw [size_alloc]; omega))
        have h7 := Lib.hid (ents_snoc (by simpa using h7))
        clear HO5 hb5 g7 z0 z1 z2
        go_wp2
        exact ⟨⟨k + 1, _, by go_num, by omega, by rw [List.length_append, List.length_singleton]; omega, HRN, h7, hb7⟩, by simp [intOf]; omega⟩
    · obtain rfl : k = l.length := by omega
      have HRN : Hid (out = keep l 0 a) := Lib.hid (by have := HR.out; rw [List.drop_length, keep_nil, List.append_nil] at this; exact this)
      clear HR
      rw [HRN.out] at HO
      have HM2 := Lib.hid (HM.out.kept hb)
      have hs := hb.size
      go_wp2_with (at_builtin; refine wpList_appE rfl _ _ 22 37 rfl Try.underlying22 ext_info w.heap.size _ (keep l 0 a) rfl HO.out _ m rfl HM2.out (by omega) hs ?_)
      intro v3 w3 h3 g3
      have hb3 := Lib.hid (hb.trans (below_of_row HO.out g3 hs))
      have h3 := Lib.hid (ents_app (by simpa using h3))
      clear HO hb g3 HM2 HRN
      go_wp2
      go_loopw [10, 14, 15, 16] (fun vo p p15 p16 wr => ∃ (k : Nat) (out : List Ent), p = .int .i64 k ∧ k ≤ l.length ∧ out.length ≤ (keep l 0 a ++ m).length + k ∧ Hid (out ++ keep (l.drop k) b 2048 = change l a b m) ∧ Hid (ExtsAt w.heap.size vo out wr) ∧ Below w.heap.size w wr) (fun _ p _ _ _ => l.length - (intOf p).toNat)
      case atStart => exact ⟨0, _, rfl, Nat.zero_le _, Nat.le_refl _, H2, h3, hb3.out⟩
      case round =>
        clear h3 hb3
        obtain ⟨k, out, rfl, hk, hol, HR, HO, hb⟩ := hrel
        by_cases hlt : k < l.length
        · obtain ⟨g, o, rfl, hg, hc⟩ := H3.out (by omega)
          obtain ⟨x1, x2, x3⟩ := hc wr hb k hlt
          have hoky := HOK.out _ (eat_mem hlt)
          have P := fun W => rpart_any (eat l k) hoky b 2048 ⟨by omega, by omega⟩ ⟨by omega, by omega⟩ W
          have hd : keep (l.drop k) b 2048 = (part (eat l k) b 2048).toList ++ keep (l.drop (k + 1)) b 2048 := by rw [drop_eat hlt, keep_cons]
          have HRo := HR.out
          rw [hd] at HRo
          have hlen : out.length ≤ 4000 := by omega
          clear hc hoky hd HR
          cases ho : part (eat l k) b 2048 with
          | none =>
            rw [ho] at P HRo
            have P := Lib.hid P
            have HRN : Hid (out ++ keep (l.drop (k + 1)) b 2048 = change l a b m) := Lib.hid HRo
            clear HRo ho
            generalize eat l k = y at *
            obtain ⟨ya, yp, yz⟩ := y
            dsimp only at *
            go_wp2_with fail
            refine (P.out _).mono ?_; rintro e w5 ⟨rfl, b5⟩
            have hb5 := balloc (bnext hb b5) (.cells (entC noE) 37)
            have HO5 := Lib.hid ((row_kept HO.out b5).alloc (.cells (entC noE) 37))
            clear x1 x2 x3 hb HO b5
            dsimp only [Option.getD_none, Option.isSome_none, noE] at *
            go_wp2
            exact ⟨⟨k + 1, out, by go_num, by omega, by omega, HRN, HO5, hb5⟩, by simp [intOf]; omega⟩
          | some z =>
            rw [ho] at P HRo
            have P := Lib.hid P
            have HRN : Hid ((out ++ [z]) ++ keep (l.drop (k + 1)) b 2048 = change l a b m) := Lib.hid (by rw [← HRo]; simp)
            clear HRo ho
            generalize eat l k = y at *
            obtain ⟨ya, yp, yz⟩ := y
            obtain ⟨za, zp, zz⟩ := z
            dsimp only at *
            go_wp2_with fail
            refine (P.out _).mono ?_; rintro e w5 ⟨rfl, b5⟩
            have hb5 := balloc (bnext hb b5) (.cells #[.int .i64 za, .int .i64 zp, .int .i64 zz] 37)
            have HO5 := Lib.hid ((row_kept HO.out b5).alloc (.cells #[.int .i64 za, .int .i64 zp, .int .i64 zz] 37))
            have kz := Blk.new #[.int .i64 za, .int .i64 zp, .int .i64 zz] 37 w5
            have z0 := kz.cell 0
            have z1 := kz.cell 1
            have z2 := kz.cell 2
            simp only [List.getElem?_toArray, List.getElem?_cons_zero, List.getElem?_cons_succ] at z0 z1 z2
            have hs5 := hb5.size
            clear x1 x2 x3 hb HO b5 kz
            dsimp only [Option.getD_some, Option.isSome_some] at *
            go_upto_region 14 with fail
            generalize w5.alloc (.cells #[.int .i64 za, .int .i64 zp, .int .i64 zz] 37) = w6 at *
            go_wp2_with (at_builtin; refine wpList_app3 rfl _ _ 22 37 rfl Try.underlying22 ext_info w.heap.size _ out ⟨za, zp, zz⟩ rfl (HO5.out.alloc _) w6 rfl _ rfl rfl (by omega) (by rw [size_alloc]; omega) ?_)
            intro v' w7 h7 g7
            have hb7 := (balloc hb5 _).trans (below_of_row (HO5.out.alloc _) g7 (by rw [size_alloc]; omega))
            have h7 := Lib.hid (ents_snoc (by simpa using h7))
            clear HO5 hb5 g7 z0 z1 z2
            go_wp2
            exact ⟨⟨k + 1, _, by go_num, by omega, by rw [List.length_append, List.length_singleton]; omega, HRN, h7, hb7⟩, by simp [intOf]; omega⟩
        · obtain rfl : k = l.length := by omega
          have HRN : Hid (out = change l a b m) := Lib.hid (by have := HR.out; rw [List.drop_length, keep_nil, List.append_nil] at this; exact this)
          clear HR
          rw [HRN.out] at HO
          have HOO := HO
          have HVz := Lib.hid (HV.out.kept hb)
          have HI := Lib.hid (rowE_in HO.out)
          obtain ⟨ad7, cp7, rfl, -⟩ := shape_of HO.out
          clear HO
          go_wp2_with fail
          refine (B1.out _ HVz.out).mono ?_; rintro e w8 ⟨v8, rfl, r8, b8⟩
          have hb8 := bnext hb b8
          have HOO := Lib.hid (row_kept HOO.out b8)
          have HI := Lib.hid (HI.out.kept b8)
          have R8 := Lib.hid (runsAt_in r8)
          clear r8 b8 HVz
          go_wp2_with fail
          refine (B2.out _ _ HI.out).mono ?_; rintro e w9 ⟨v9, rfl, r9, b9⟩
          have hb9 := bnext hb8 b9
          have HOO := Lib.hid (row_kept HOO.out b9)
          have R8 := Lib.hid (runsIn_kept R8.out b9)
          have R9 := Lib.hid (runsAt_in r9)
          have hs9 := hb9.size
          clear r9 b9 HI
          go_wp2_with fail
          refine (MN.out _ _ _ R8.out R9.out).mono ?_; rintro e wz ⟨vz, rfl, rz, bz⟩
          have RZ := Lib.hid (row_down hs9 rz)
          have HOO := Lib.hid (row_kept HOO.out bz)
          have hbz := bnext hb9 bz
          clear rz bz R8 R9
          go_wp2
          go_ret2
          exact ⟨_, _, rfl, HOO.out, RZ.out, hbz⟩
end Go.Proofs.Ytgcbfiecgiijkaa
