/- Parse: the document's. -/
import Derived.Test.YtogdogadejjmeaaERPack2
import Derived.Test.YtogdogadejjmeaaEParse
namespace Go.Proofs.Ytogdogadejjmeaa
set_option linter.unusedVariables false
open Go.RowKit

/-- the document's reader at place i -/
theorem place_step (b : ByteArray) (i : Nat) (hi : i < b.size) (acc : List Den) (h : (parseAt b i).map (acc ++ ·) = parseB b) :
    (b[i] = 0 → parseB b = some acc) ∧
    (b[i] ≠ 0 → b.size < i + 5 + b[i].toNat → parseB b = none) ∧
    (b[i] ≠ 0 → i + 5 + b[i].toNat ≤ b.size → intV b ((i : Int) + 1) 4 < 4294967296 ∧ (parseAt b (i + 5 + b[i].toNat)).map ((acc ++ [⟨b.extract (i + 5) (i + 5 + b[i].toNat), (intV b ((i : Int) + 1) 4 : Int)⟩]) ++ ·) = parseB b) := by
  refine ⟨fun h0 => ?_, fun h0 h1 => ?_, fun h0 h1 => ?_⟩
  · rw [parseAt_stop hi h0] at h
    rw [← h]; simp
  · rw [parseAt_none hi h0 h1] at h
    rw [← h]; rfl
  · obtain ⟨_, e, hl⟩ := intV_four (s := b) (a := i + 1) (by omega)
    rw [show ((i + 1 : Nat) : Int) = (i : Int) + 1 by omega] at e
    rw [parseAt_more hi h0 h1] at h
    rw [e]
    refine ⟨hl, ?_⟩
    rw [← h, Option.map_map]
    congr 1
    funext l
    simp
theorem place_end (b : ByteArray) (i : Nat) (hi : b.size ≤ i) (acc : List Den) (h : (parseAt b i).map (acc ++ ·) = parseB b) : parseB b = some acc := by
  rw [parseAt_end hi] at h; rw [← h]; simp
theorem ok_four (b : ByteArray) (i : Nat) : intOk b ((i : Int) + 1) 4 = decide (i + 5 ≤ b.size) := by
  by_cases h : i + 5 ≤ b.size
  · obtain ⟨e, _⟩ := intV_four (s := b) (a := i + 1) (by omega)
    rw [show ((i + 1 : Nat) : Int) = (i : Int) + 1 by omega] at e
    rw [e, decide_eq_true h]
  · have hf : fieldOk b.size ((i : Int) + 1) ((4 : Nat) : Int) = false := by unfold fieldOk; simp; omega
    rw [decide_eq_false h]
    show intOk b ((i : Int) + 1) ((4 : Nat) : Int) = false
    unfold intOk; rw [hf]; rfl
theorem none_dir {b : ByteArray} (h : parseB b = none) : ¬ IsDir b := fun hd => by
  obtain ⟨l, hl, _⟩ := (isDir_iff b).1 hd
  rw [h] at hl; cases hl
theorem some_read {b : ByteArray} {l : List Den} (h : parseB b = some l) : readB b = l := read_of_parse _ _ rfl l h
set_option maxRecDepth 100000 in
set_option maxHeartbeats 4000000 in
theorem rparse_any (b : ByteArray) (hb : b.size ≤ 2000) (w : World) :
    Calls Try.prog 15 #[.string b] w fun e w' => ∃ v, e = .returned (.tuple #[v, .int .i64 (errP b)]) ∧ DensAt w.heap.size v (listP b) w' ∧ Below w.heap.size w w' := by
  have HG := Lib.hid fun (i : Nat) w => rgetInt_any b (by unfold maxLen; omega) ((i : Int) + 1) 4 w
  have H0 : Hid ((parseAt b 0).map ([] ++ ·) = parseB b) := Lib.hid (by
    rw [parseAt_zero]
    cases parseB b <;> simp)
  go_enter Try.func15, Try.ntmps15
  go_wp2
  go_loopw [4, 5] (fun v p wr => ∃ (i : Nat) (acc : List Den), p = .int .i64 i ∧ i ≤ b.size ∧ acc.length ≤ i ∧ Hid ((parseAt b i).map (acc ++ ·) = parseB b) ∧ DensAt w.heap.size v acc wr ∧ Below w.heap.size w wr) (fun _ p _ => b.size - (intOf p).toNat)
  case atStart => exact ⟨0, [], rfl, Nat.zero_le _, Nat.zero_le _, H0, World.ownsRow_nil _ _ _ _, Below.refl _ _⟩
  case round =>
    clear H0
    obtain ⟨i, acc, rfl, hi, hal, HP, hown, hbw⟩ := hrel
    by_cases hlt : i < b.size
    · obtain ⟨q1, q2, q3⟩ := place_step b i hlt acc HP.out
      have hok := ok_four b i
      obtain ⟨x, hx⟩ : ∃ x : UInt8, b[i]'hlt = x := ⟨_, rfl⟩
      rw [hx] at q1 q2 q3
      by_cases h0 : x = 0
      · have hP := q1 h0
        have q0 : ((x.toNat : Int) == 0) = true := by rw [h0]; rfl
        clear q1 q2 q3 HP h0 hok
        have hrd := some_read hP
        obtain ⟨f1, f2, f3⟩ := readB_fit hb
        rw [hrd] at f1 f2 f3
        obtain ⟨ad, cap, rfl, -⟩ := shape_of hown
        have RP := fun v w hv => rpack_any acc (by omega) f1 (by omega) v w hv
        unfold packRet packS at RP
        by_cases hE : packE acc = 0
        · by_cases hQ : pack acc = b
          · have hd : IsDir b := (isDir_read b).2 ⟨by rw [hrd]; exact hE, by rw [hrd]; exact hQ⟩
            have hl : acc = listP b := by rw [← hrd, readB_dir hd, listP_yes hd]
            have HF : Hid (errP b = 0 ∧ listP b = acc) := Lib.hid ⟨errP_yes hd, hl.symm⟩
            rw [if_pos hE, hE, hQ] at RP
            have t1 : (b.toList == b.toList) = true := by simp
            have RP := Lib.hid RP
            clear hE hQ hd hl f1 f3 hrd hP
            go_wp2_with fail
            refine (RP.out _ _ (densAt_in hown)).mono ?_; rintro e w2 ⟨rfl, b2⟩
            have hown2 := row_kept hown b2
            have hb2 := bnext hbw b2
            clear hown b2
            go_wp2
            go_ret2
            exact ⟨_, by rw [HF.out.1]; rfl, by rw [HF.out.2]; exact hown2, hb2⟩
          · have hd : ¬ IsDir b := fun h => hQ (by have := ((isDir_read b).1 h).2; rwa [hrd] at this)
            have HF : Hid (errP b = 80 ∧ listP b = []) := Lib.hid ⟨errP_no hd, listP_no hd⟩
            rw [if_pos hE, hE] at RP
            have t1 : ((pack acc).toList == b.toList) = false := by rw [str_beq]; exact decide_eq_false hQ
            generalize pack acc = S at *
            have RP := Lib.hid RP
            clear hE hQ hd f1 f3 hrd hP
            go_wp2_with fail
            refine (RP.out _ _ (densAt_in hown)).mono ?_; rintro e w2 ⟨rfl, b2⟩
            have hb2 := bnext hbw b2
            clear hown b2
            go_wp2
            go_ret2
            exact ⟨_, by rw [HF.out.1]; rfl, by rw [HF.out.2]; exact World.ownsRow_nil _ _ _ _, hb2⟩
        · have hd : ¬ IsDir b := fun h => hE (by have := ((isDir_read b).1 h).1; rwa [hrd] at this)
          have HF : Hid (errP b = 80 ∧ listP b = []) := Lib.hid ⟨errP_no hd, listP_no hd⟩
          rw [if_neg hE] at RP
          have t1 : (packE acc != 0) = true := by rw [bne_iff_ne]; exact hE
          generalize packE acc = E at *
          have RP := Lib.hid RP
          clear hd f1 f3 hrd hP
          go_wp2_with fail
          refine (RP.out _ _ (densAt_in hown)).mono ?_; rintro e w2 ⟨rfl, b2⟩
          have hb2 := bnext hbw b2
          clear hown b2
          go_wp2
          go_ret2
          exact ⟨_, by rw [HF.out.1]; rfl, by rw [HF.out.2]; exact World.ownsRow_nil _ _ _ _, hb2⟩
      · have q0 : ((x.toNat : Int) == 0) = false := byte_is h0
        have hx255 := x.toNat_lt
        by_cases h1 : i + 5 + x.toNat ≤ b.size
        · obtain ⟨q4, q5⟩ := q3 h0 h1
          have G := HG.out i
          rw [hok, decide_eq_true (show i + 5 ≤ b.size by omega)] at G
          have HQ := Lib.hid q5
          generalize intV b ((i : Int) + 1) 4 = m at *
          have t2 : decide ((b.size : Int) < (i : Int) + 5 + (x.toNat : Int)) = false := decide_eq_false (by omega)
          obtain ⟨ad, cap, rfl, -⟩ := shape_of hown
          have hbs := hbw.size
          have G := Lib.hid G
          have HZ := Lib.hid h0
          clear q1 q2 q3 q5 HP hok h0
          go_wp2_with fail
          refine (G.out _).mono ?_; rintro e w2 ⟨rfl, rfl⟩
          go_wp2_with (at_builtin; refine wpList_appD rfl _ _ rfl w.heap.size _ acc ⟨b.extract (i + 5) (i + 5 + x.toNat), (m : Int)⟩ rfl (World.ownsRow.alloc hown _) wr rfl rfl (by omega) (by rw [size_alloc]; omega) ?_)
          intro v5 w5 hv5 b5
          have hb5 := (balloc hbw _).trans b5
          have HX : Hid (x.toNat ≠ 0) := Lib.hid fun e => HZ.out (UInt8.toNat_inj.1 e)
          clear G b5 hown hbw HZ
          go_wp2
          exact ⟨⟨i + 5 + x.toNat, _, by go_num, h1, by rw [List.length_append, List.length_singleton]; omega, HQ, hv5, hb5⟩, by simp [intOf]; omega⟩
        · have hP := q2 h0 (by omega)
          have hd := none_dir hP
          have HF : Hid (errP b = 80 ∧ listP b = []) := Lib.hid ⟨errP_no hd, listP_no hd⟩
          have G := HG.out i
          rw [hok] at G
          generalize intV b ((i : Int) + 1) 4 = m at *
          by_cases h5 : i + 5 ≤ b.size
          · rw [decide_eq_true h5] at G
            have t2 : decide ((b.size : Int) < (i : Int) + 5 + (x.toNat : Int)) = true := decide_eq_true (by omega)
            have G := Lib.hid G
            clear q1 q2 q3 HP hok h0 hP hd
            go_wp2_with fail
            refine (G.out _).mono ?_; rintro e w2 ⟨rfl, rfl⟩
            go_wp2
            go_ret2
            exact ⟨_, by rw [HF.out.1]; rfl, by rw [HF.out.2]; exact World.ownsRow_nil _ _ _ _, hbw⟩
          · rw [decide_eq_false h5] at G
            have G := Lib.hid G
            clear q1 q2 q3 HP hok h0 hP hd
            go_wp2_with fail
            refine (G.out _).mono ?_; rintro e w2 ⟨rfl, rfl⟩
            go_wp2
            go_ret2
            exact ⟨_, by rw [HF.out.1]; rfl, by rw [HF.out.2]; exact World.ownsRow_nil _ _ _ _, hbw⟩
    · have hP := place_end b i (by omega) acc HP.out
      clear HP
      have hrd := some_read hP
      obtain ⟨f1, f2, f3⟩ := readB_fit hb
      rw [hrd] at f1 f2 f3
      obtain ⟨ad, cap, rfl, -⟩ := shape_of hown
      have RP := fun v w hv => rpack_any acc (by omega) f1 (by omega) v w hv
      unfold packRet packS at RP
      by_cases hE : packE acc = 0
      · by_cases hQ : pack acc = b
        · have hd : IsDir b := (isDir_read b).2 ⟨by rw [hrd]; exact hE, by rw [hrd]; exact hQ⟩
          have hl : acc = listP b := by rw [← hrd, readB_dir hd, listP_yes hd]
          have HF : Hid (errP b = 0 ∧ listP b = acc) := Lib.hid ⟨errP_yes hd, hl.symm⟩
          rw [if_pos hE, hE, hQ] at RP
          have t1 : (b.toList == b.toList) = true := by simp
          have RP := Lib.hid RP
          clear hE hQ hd hl f1 f3 hrd hP
          go_wp2_with fail
          refine (RP.out _ _ (densAt_in hown)).mono ?_; rintro e w2 ⟨rfl, b2⟩
          have hown2 := row_kept hown b2
          have hb2 := bnext hbw b2
          clear hown b2
          go_wp2
          go_ret2
          exact ⟨_, by rw [HF.out.1]; rfl, by rw [HF.out.2]; exact hown2, hb2⟩
        · have hd : ¬ IsDir b := fun h => hQ (by have := ((isDir_read b).1 h).2; rwa [hrd] at this)
          have HF : Hid (errP b = 80 ∧ listP b = []) := Lib.hid ⟨errP_no hd, listP_no hd⟩
          rw [if_pos hE, hE] at RP
          have t1 : ((pack acc).toList == b.toList) = false := by rw [str_beq]; exact decide_eq_false hQ
          generalize pack acc = S at *
          have RP := Lib.hid RP
          clear hE hQ hd f1 f3 hrd hP
          go_wp2_with fail
          refine (RP.out _ _ (densAt_in hown)).mono ?_; rintro e w2 ⟨rfl, b2⟩
          have hb2 := bnext hbw b2
          clear hown b2
          go_wp2
          go_ret2
          exact ⟨_, by rw [HF.out.1]; rfl, by rw [HF.out.2]; exact World.ownsRow_nil _ _ _ _, hb2⟩
      · have hd : ¬ IsDir b := fun h => hE (by have := ((isDir_read b).1 h).1; rwa [hrd] at this)
        have HF : Hid (errP b = 80 ∧ listP b = []) := Lib.hid ⟨errP_no hd, listP_no hd⟩
        rw [if_neg hE] at RP
        have t1 : (packE acc != 0) = true := by rw [bne_iff_ne]; exact hE
        generalize packE acc = E at *
        have RP := Lib.hid RP
        clear hd f1 f3 hrd hP
        go_wp2_with fail
        refine (RP.out _ _ (densAt_in hown)).mono ?_; rintro e w2 ⟨rfl, b2⟩
        have hb2 := bnext hbw b2
        clear hown b2
        go_wp2
        go_ret2
        exact ⟨_, by rw [HF.out.1]; rfl, by rw [HF.out.2]; exact World.ownsRow_nil _ _ _ _, hb2⟩
end Go.Proofs.Ytogdogadejjmeaa
