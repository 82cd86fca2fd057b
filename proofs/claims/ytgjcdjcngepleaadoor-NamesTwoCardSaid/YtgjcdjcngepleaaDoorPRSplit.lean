/- Split: the document's. -/
import Derived.Test.YtgjcdjcngepleaaDoorPRef
namespace Go.Proofs.YtgjcdjcngepleaaDoor
set_option linter.unusedVariables false
open Go.RowKit

/-- how far the document's loop has come: the parts acc, the next one from fr, the place i -/
def Cond (s : ByteArray) (acc : List ByteArray) (fr i : Nat) : Prop :=
  (i ≤ s.size → fr ≤ i ∧ NoSlash s fr i ∧ acc ++ segsAt s fr = partsOf s) ∧ (i = s.size + 1 → acc = partsOf s)
theorem cond_zero {s : ByteArray} (h : 1 ≤ s.size) : Cond s [] 1 1 :=
  ⟨fun _ => ⟨Nat.le_refl _, fun j h1 h2 => by omega, by rw [List.nil_append, segsAt_one]⟩, fun h => by omega⟩
theorem at_byte {s : ByteArray} {i : Nat} (h : i < s.size) : s.data.toList[i]? = some s[i] := by
  rw [List.getElem?_eq_getElem (by rw [bsize]; exact h)]; rfl
theorem cond_skip {s : ByteArray} {acc : List ByteArray} {fr i : Nat} (h : Cond s acc fr i) (hi : i < s.size) (hc : s[i] ≠ 47) : Cond s acc fr (i + 1) := by
  obtain ⟨h1, h2, h3⟩ := h.1 (by omega)
  refine ⟨fun _ => ⟨by omega, fun j j1 j2 => ?_, h3⟩, fun h => by omega⟩
  by_cases e : j = i
  · subst e; rw [at_byte hi]; simpa using hc
  · exact h2 j j1 (by omega)
theorem cond_cut {s : ByteArray} {acc : List ByteArray} {fr i : Nat} (h : Cond s acc fr i) (hi : i < s.size) (hc : s[i] = 47) : Cond s (acc ++ [s.extract fr i]) (i + 1) (i + 1) ∧ s.extract fr i ∈ partsOf s := by
  obtain ⟨h1, h2, h3⟩ := h.1 (by omega)
  have e := segsAt_cut h2 h1 (by rw [at_byte hi, hc])
  rw [e] at h3
  refine ⟨⟨fun _ => ⟨Nat.le_refl _, fun j j1 j2 => by omega, ?_⟩, fun h => by omega⟩, ?_⟩
  · rw [← h3]; simp
  · rw [← h3]; simp
theorem cond_last {s : ByteArray} {acc : List ByteArray} {fr : Nat} (h : Cond s acc fr s.size) : Cond s (acc ++ [s.extract fr s.size]) (s.size + 1) (s.size + 1) ∧ s.extract fr s.size ∈ partsOf s := by
  obtain ⟨h1, h2, h3⟩ := h.1 (Nat.le_refl _)
  rw [segsAt_last h2 h1] at h3
  exact ⟨⟨fun h => by omega, fun _ => h3⟩, by rw [← h3]; simp⟩
theorem split_none {s : ByteArray} (h : splitE s ≠ 0) : splitV s = [] := (split_bad h).1
theorem head_at {s : ByteArray} (h : 0 < s.size) : s.data.toList.head? = some s[0] := by rw [List.head?_eq_getElem?]; exact at_byte h
theorem split_long {s : ByteArray} (h : 256 < s.size) : splitE s = 3 ∧ splitV s = [] := by
  have e : splitE s = 3 := by unfold splitE; rw [if_pos h]
  exact ⟨e, split_none (by rw [e]; decide)⟩
theorem split_empty {s : ByteArray} (h : s.size = 0) : splitE s = 130 ∧ splitV s = [] := by
  have e : splitE s = 130 := by
    unfold splitE
    have : s.data.toList = [] := List.eq_nil_of_length_eq_zero h
    rw [if_neg (by omega), if_pos (by rw [this]; simp)]
  exact ⟨e, split_none (by rw [e]; decide)⟩
theorem split_head {s : ByteArray} (h : ¬ 256 < s.size) (h0 : 0 < s.size) (h1 : s[0] ≠ 47) : splitE s = 130 ∧ splitV s = [] := by
  have e : splitE s = 130 := by unfold splitE; rw [if_neg h, if_pos (by rw [head_at h0]; simpa using h1)]
  exact ⟨e, split_none (by rw [e]; decide)⟩
theorem split_root {s : ByteArray} (h0 : 0 < s.size) (h1 : s[0] = 47) (h2 : s.size = 1) : splitE s = 0 ∧ splitV s = [] := by
  have e : splitE s = 0 := by unfold splitE; rw [if_neg (by omega), if_neg (by rw [head_at h0]; simp [h1]), if_pos h2]
  exact ⟨e, by unfold splitV; rw [if_neg (fun k => k.2 h2)]⟩
theorem split_part {s : ByteArray} (h : ¬ 256 < s.size) (h0 : 0 < s.size) (h1 : s[0] = 47) (h2 : s.size ≠ 1) (h3 : ¬ Comps (partsOf s)) : splitE s = 130 ∧ splitV s = [] := by
  have e : splitE s = 130 := by unfold splitE; rw [if_neg h, if_neg (by rw [head_at h0]; simp [h1]), if_neg h2, if_pos h3]
  exact ⟨e, split_none (by rw [e]; decide)⟩
theorem split_many {s : ByteArray} (h : ¬ 256 < s.size) (h0 : 0 < s.size) (h1 : s[0] = 47) (h2 : s.size ≠ 1) (h3 : Comps (partsOf s)) (h4 : 16 < (partsOf s).length) : splitE s = 3 ∧ splitV s = [] := by
  have e : splitE s = 3 := by unfold splitE; rw [if_neg h, if_neg (by rw [head_at h0]; simp [h1]), if_neg h2, if_neg (by simp [h3]), if_pos h4]
  exact ⟨e, split_none (by rw [e]; decide)⟩
theorem split_fine {s : ByteArray} (h : ¬ 256 < s.size) (h0 : 0 < s.size) (h1 : s[0] = 47) (h2 : s.size ≠ 1) (h3 : Comps (partsOf s)) (h4 : ¬ 16 < (partsOf s).length) : splitE s = 0 ∧ splitV s = partsOf s := by
  have e : splitE s = 0 := by unfold splitE; rw [if_neg h, if_neg (by rw [head_at h0]; simp [h1]), if_neg h2, if_neg (by simp [h3]), if_neg h4]
  exact ⟨e, by unfold splitV; rw [if_pos ⟨e, h2⟩]⟩
theorem split_big {s : ByteArray} (h0 : 0 < s.size) (h1 : s[0] = 47) : s = slashB ↔ s.size = 1 := by
  constructor
  · rintro rfl; rfl
  · intro h; exact one_slash (by rw [head_at h0, h1]) h
set_option maxRecDepth 100000 in
set_option maxHeartbeats 4000000 in
theorem rsplit_any (s : ByteArray) (hs : s.size ≤ 9223372036854775807) (w : World) :
    Calls Tryd.prog 10 #[.string s] w fun e w' => ∃ v, e = .returned (.tuple #[v, .int .i64 (splitE s)]) ∧ StrsAt w.heap.size v (splitV s) w' ∧ Below w.heap.size w w' := by
  by_cases h256 : 256 < s.size
  · have HF := Lib.hid (split_long h256)
    have t1 : decide ((256 : Int) < (s.size : Int)) = true := decide_eq_true (by omega)
    clear h256
    go_enter Tryd.func10, Tryd.ntmps10
    go_wp2
    go_ret2
    exact ⟨_, by rw [HF.out.1]; rfl, by rw [HF.out.2]; exact World.ownsRow_nil _ _ _ _, Below.refl _ _⟩
  · have t1 : decide ((256 : Int) < (s.size : Int)) = false := decide_eq_false (by omega)
    by_cases h0 : s.size = 0
    · have HF := Lib.hid (split_empty h0)
      have t2 : ((s.size : Int) == 0) = true := by rw [beq_iff_eq]; omega
      clear h256 h0
      go_enter Tryd.func10, Tryd.ntmps10
      go_wp2
      go_ret2
      exact ⟨_, by rw [HF.out.1]; rfl, by rw [HF.out.2]; exact World.ownsRow_nil _ _ _ _, Below.refl _ _⟩
    · have t2 : ((s.size : Int) == 0) = false := by rw [beq_eq_false_iff_ne]; omega
      have hp : 0 < s.size := by omega
      by_cases h47 : s[0] = 47
      · have q0 : (((s[0]'hp).toNat : Int) != 47) = false := by rw [h47]; rfl
        have q1 := slash_eq s
        rw [t_slash] at q1
        by_cases hone : s.size = 1
        · have HF := Lib.hid (split_root hp h47 hone)
          rw [decide_eq_true ((split_big hp h47).2 hone)] at q1
          clear h256 h0 h47 hone
          go_enter Tryd.func10, Tryd.ntmps10
          go_wp2
          go_ret2
          exact ⟨_, by rw [HF.out.1]; rfl, by rw [HF.out.2]; exact World.ownsRow_nil _ _ _ _, Below.refl _ _⟩
        · rw [decide_eq_false (fun h => hone ((split_big hp h47).1 h))] at q1
          have HB : Hid (¬ Comps (partsOf s) → splitE s = 130 ∧ splitV s = []) := Lib.hid (split_part h256 hp h47 hone)
          have HM : Hid (Comps (partsOf s) → 16 < (partsOf s).length → splitE s = 3 ∧ splitV s = []) := Lib.hid (split_many h256 hp h47 hone)
          have HO : Hid (Comps (partsOf s) → ¬ 16 < (partsOf s).length → splitE s = 0 ∧ splitV s = partsOf s) := Lib.hid (split_fine h256 hp h47 hone)
          have HP0 : Hid (Cond s [] 1 1) := Lib.hid (cond_zero (by omega))
          have NM := Lib.hid fun (a b : Nat) w => rname_any (s.extract a b) (by rw [ByteArray.size_extract]; omega) w
          have HH := Lib.hid h47
          clear h0 h47 hone
          generalize splitE s = E at *
          generalize splitV s = V at *
          go_enter Tryd.func10, Tryd.ntmps10
          go_wp2
          clear q0 q1 t1 t2 HH
          go_loopw [4, 5, 6] (fun v p q wr => ∃ (i fr : Nat) (acc : List ByteArray), q = .int .i64 i ∧ p = .int .i64 fr ∧ 1 ≤ i ∧ i ≤ s.size + 1 ∧ acc.length ≤ i ∧ Hid (Comps acc) ∧ Hid (Cond s acc fr i) ∧ StrsAt w.heap.size v acc wr ∧ Below w.heap.size w wr) (fun _ _ q _ => s.size + 1 - (intOf q).toNat)
          case atStart => exact ⟨1, 1, [], rfl, rfl, Nat.le_refl _, by omega, Nat.zero_le _, Lib.hid (fun x hx => by simp at hx), HP0, World.ownsRow_nil _ _ _ _, Below.refl _ _⟩
          case round =>
            clear HP0
            obtain ⟨i, fr, acc, rfl, rfl, hi1, hi, hal, HC, HP, hown, hbw⟩ := hrel
            by_cases hle : i ≤ s.size
            · have hfr := (HP.out.1 hle).1
              have ti : decide ((i : Int) ≤ (s.size : Int)) = true := decide_eq_true (by omega)
              have C := NM.out fr i wr
              by_cases hlt : i < s.size
              · have tl : decide ((i : Int) < (s.size : Int)) = true := decide_eq_true (by omega)
                obtain ⟨x, hx⟩ : ∃ x : UInt8, s[i]'hlt = x := ⟨_, rfl⟩
                by_cases h47 : x = 47
                · have q0 : ((x.toNat : Int) != 47) = false := by rw [h47]; rfl
                  have hcut := cond_cut HP.out hlt (by rw [hx, h47])
                  have NX := Lib.hid hcut.1
                  have NB : Hid (¬ NameOk (s.extract fr i) → E = 130 ∧ V = []) := Lib.hid fun hn => HB.out fun h => hn (h _ hcut.2)
                  clear hcut h47 HM HO HB NM
                  -- fr, i: the part; NX: what holds behind it; NB: what holds if it is none
                  by_cases hok : NameOk (s.extract fr i)
                  · rw [decide_eq_true hok] at C
                    have HCn : Hid (Comps (acc ++ [s.extract fr i])) := Lib.hid ((comps_snoc _ _).2 ⟨HC.out, hok⟩)
                    have C := Lib.hid C
                    obtain ⟨ad, cap, rfl, -⟩ := shape_of hown
                    have hbs := hbw.size
                    clear NB hok HC HP
                    go_wp2_with fail
                    refine C.out.mono ?_; rintro e w2 ⟨rfl, b2⟩
                    have hown2 := row_kept hown b2
                    have hb2 := bnext hbw b2
                    have hz2 := b2.size
                    clear b2 C hown hbw
                    go_wp2_with (at_builtin; refine wpList_appT1 rfl _ _ rfl w.heap.size _ acc (s.extract fr i) rfl (World.ownsRow.alloc hown2 _) w2 rfl rfl (by omega) (by rw [size_alloc]; omega) ?_)
                    intro v5 w5 hv5 b5
                    have hb5 := (balloc hb2 _).trans b5
                    clear b5 hown2 hb2
                    go_wp2
                    exact ⟨⟨i + 1, i + 1, _, by go_num, by go_num, by omega, by omega, by rw [List.length_append, List.length_singleton]; omega, HCn, NX, hv5, hb5⟩, by simp [intOf]; omega⟩
                  · rw [decide_eq_false hok] at C
                    have HF := Lib.hid (NB.out hok)
                    have C := Lib.hid C
                    obtain ⟨ad, cap, rfl, -⟩ := shape_of hown
                    clear NX NB hok HC HP
                    go_wp2_with fail
                    refine C.out.mono ?_; rintro e w2 ⟨rfl, b2⟩
                    have hb2 := bnext hbw b2
                    clear b2 C hown hbw
                    go_wp2
                    go_ret2
                    exact ⟨_, by rw [HF.out.1]; rfl, by rw [HF.out.2]; exact World.ownsRow_nil _ _ _ _, hb2⟩
                · have q0 : ((x.toNat : Int) != 47) = true := by rw [bne, show ((x.toNat : Int) == 47) = false from byte_is h47]; rfl
                  have NX := Lib.hid (cond_skip HP.out hlt (by rw [hx]; exact h47))
                  clear h47 HM HO HB NM C HP
                  go_wp2
                  exact ⟨⟨i + 1, fr, acc, by go_num, rfl, by omega, by omega, by omega, HC, NX, hown, hbw⟩, by simp [intOf]; omega⟩
              · have hie : i = s.size := by omega
                have tl : decide ((i : Int) < (s.size : Int)) = false := decide_eq_false (by omega)
                have hcut := cond_last (s := s) (acc := acc) (fr := fr) (hie ▸ HP.out)
                rw [← hie] at hcut
                have NX : Hid (Cond s (acc ++ [s.extract fr i]) (i + 1) (i + 1)) := Lib.hid (by have := hcut.1; simpa only [hie] using this)
                have NB : Hid (¬ NameOk (s.extract fr i) → E = 130 ∧ V = []) := Lib.hid fun hn => HB.out fun h => hn (h _ hcut.2)
                clear hcut hie HM HO HB NM
                -- fr, i: the part; NX: what holds behind it; NB: what holds if it is none
                by_cases hok : NameOk (s.extract fr i)
                · rw [decide_eq_true hok] at C
                  have HCn : Hid (Comps (acc ++ [s.extract fr i])) := Lib.hid ((comps_snoc _ _).2 ⟨HC.out, hok⟩)
                  have C := Lib.hid C
                  obtain ⟨ad, cap, rfl, -⟩ := shape_of hown
                  have hbs := hbw.size
                  clear NB hok HC HP
                  go_wp2_with fail
                  refine C.out.mono ?_; rintro e w2 ⟨rfl, b2⟩
                  have hown2 := row_kept hown b2
                  have hb2 := bnext hbw b2
                  have hz2 := b2.size
                  clear b2 C hown hbw
                  go_wp2_with (at_builtin; refine wpList_appT1 rfl _ _ rfl w.heap.size _ acc (s.extract fr i) rfl (World.ownsRow.alloc hown2 _) w2 rfl rfl (by omega) (by rw [size_alloc]; omega) ?_)
                  intro v5 w5 hv5 b5
                  have hb5 := (balloc hb2 _).trans b5
                  clear b5 hown2 hb2
                  go_wp2
                  exact ⟨⟨i + 1, i + 1, _, by go_num, by go_num, by omega, by omega, by rw [List.length_append, List.length_singleton]; omega, HCn, NX, hv5, hb5⟩, by simp [intOf]; omega⟩
                · rw [decide_eq_false hok] at C
                  have HF := Lib.hid (NB.out hok)
                  have C := Lib.hid C
                  obtain ⟨ad, cap, rfl, -⟩ := shape_of hown
                  clear NX NB hok HC HP
                  go_wp2_with fail
                  refine C.out.mono ?_; rintro e w2 ⟨rfl, b2⟩
                  have hb2 := bnext hbw b2
                  clear b2 C hown hbw
                  go_wp2
                  go_ret2
                  exact ⟨_, by rw [HF.out.1]; rfl, by rw [HF.out.2]; exact World.ownsRow_nil _ _ _ _, hb2⟩
            · have hacc := HP.out.2 (by omega)
              have ti : decide ((i : Int) ≤ (s.size : Int)) = false := decide_eq_false (by omega)
              have hcc := HC.out
              rw [hacc] at hcc
              obtain ⟨ad, cap, rfl, -⟩ := shape_of hown
              by_cases h16 : 16 < acc.length
              · have HF := Lib.hid (HM.out hcc (by rw [← hacc]; exact h16))
                have t3 : decide ((16 : Int) < (acc.length : Int)) = true := decide_eq_true (by omega)
                clear hcc hacc h16 HM HO HB NM HP HC
                go_wp2
                go_ret2
                exact ⟨_, by rw [HF.out.1]; rfl, by rw [HF.out.2]; exact World.ownsRow_nil _ _ _ _, hbw⟩
              · have HF := Lib.hid (HO.out hcc (by rw [← hacc]; exact h16))
                rw [← hacc] at HF
                have t3 : decide ((16 : Int) < (acc.length : Int)) = false := decide_eq_false (by omega)
                clear hcc hacc h16 HM HO HB NM HP HC
                go_wp2
                go_ret2
                exact ⟨_, by rw [HF.out.1]; rfl, by rw [HF.out.2]; exact hown, hbw⟩
      · have q0 : (((s[0]'hp).toNat : Int) != 47) = true := by rw [bne, show (((s[0]'hp).toNat : Int) == 47) = false from byte_is h47]; rfl
        have HF := Lib.hid (split_head h256 hp h47)
        clear h256 h0 h47
        go_enter Tryd.func10, Tryd.ntmps10
        go_wp2
        go_ret2
        exact ⟨_, by rw [HF.out.1]; rfl, by rw [HF.out.2]; exact World.ownsRow_nil _ _ _ _, Below.refl _ _⟩
end Go.Proofs.YtgjcdjcngepleaaDoor
