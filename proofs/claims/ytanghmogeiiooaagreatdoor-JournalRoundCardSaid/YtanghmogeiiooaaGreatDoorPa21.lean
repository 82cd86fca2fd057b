import Derived.Test.YtanghmogeiiooaaGreatDoorPa08
import Derived.Test.YtanghmogeiiooaaGreatDoorPa09
import Derived.Deep.RegionHeld3
set_option linter.unusedVariables false
set_option linter.unusedSimpArgs false
set_option linter.constructorNameAsVariable false
/- Acts that the device can do: what becomes of it, all of them done, or as many as it has left; what stands there then. -/
namespace Go.Proofs.YtanghmogeiiooaaGreatDoor
set_option linter.unusedVariables false

/-- what an act that is done does -/
def Deed.eff (S : St) : Deed → St
  | .write b d => S.wrote b.toNat d
  | .flush => S.flushed
/-- an act that a device of n blocks can do -/
def Deed.fine (n : Nat) : Deed → Prop
  | .write b d => 0 ≤ b ∧ b < (n : Int) ∧ d.size = 128
  | .flush => True
def runD (S : St) (L : List Deed) : St := L.foldl Deed.eff S
theorem runD_nil (S : St) : runD S [] = S := rfl
theorem runD_cons (S : St) (a : Deed) (L : List Deed) : runD S (a :: L) = runD (a.eff S) L := rfl
theorem runD_append (S : St) (A B : List Deed) : runD S (A ++ B) = runD (runD S A) B := by unfold runD; rw [List.foldl_append]
theorem Deed.code_fine {S : St} {a : Deed} (h : a.fine S.n) : a.code S = if S.left = 0 then 61 else 0 := by
  cases a with
  | write b d =>
    obtain ⟨h1, h2, h3⟩ := h
    show wCode S b d.size = _
    unfold wCode
    rw [if_neg (by omega), if_neg (by omega)]
  | flush => rfl
theorem Deed.st_fine {S : St} {a : Deed} (h : a.fine S.n) : a.st S = if S.left = 0 then S else a.eff S := by
  cases a with
  | write b d =>
    obtain ⟨h1, h2, h3⟩ := h
    show wSt S b d = _
    unfold wSt
    by_cases h0 : S.left = 0
    · rw [if_pos h0, if_neg]
      unfold wCode; rw [if_neg (by omega), if_neg (by omega), if_pos h0]; decide
    · rw [if_neg h0, if_pos (wCode_zero h1 h2 h3 h0)]; rfl
  | flush => rfl
theorem Deed.eff_n (S : St) (a : Deed) : (a.eff S).n = S.n := by cases a <;> rfl
theorem Deed.eff_left (S : St) (a : Deed) : (a.eff S).left = lessOne S.left := by cases a <;> rfl
theorem Deed.eff_acts (S : St) (a : Deed) : (a.eff S).acts = S.acts + 1 := by cases a <;> rfl
theorem runD_n (S : St) (L : List Deed) : (runD S L).n = S.n := by
  induction L generalizing S with
  | nil => rfl
  | cons a L ih => rw [runD_cons, ih, a.eff_n]
theorem runD_acts (S : St) (L : List Deed) : (runD S L).acts = S.acts + L.length := by
  induction L generalizing S with
  | nil => rfl
  | cons a L ih => rw [runD_cons, ih, a.eff_acts, List.length_cons]; omega
theorem runD_left_all {S : St} (h : S.left < 0) (L : List Deed) : (runD S L).left = S.left := by
  induction L generalizing S with
  | nil => rfl
  | cons a L ih =>
    have e : (a.eff S).left = S.left := by rw [a.eff_left]; unfold lessOne; rw [if_neg (by omega)]
    rw [runD_cons, ih (by omega), e]
theorem runD_left {S : St} {L : List Deed} (h : (L.length : Int) ≤ S.left) : (runD S L).left = S.left - L.length := by
  induction L generalizing S with
  | nil => rw [runD_nil]; simp
  | cons a L ih =>
    rw [List.length_cons] at h
    have e : (a.eff S).left = S.left - 1 := by rw [a.eff_left]; unfold lessOne; rw [if_pos (by omega)]
    rw [runD_cons, ih (by omega), e, List.length_cons]; omega
theorem Deed.eff_ok {S : St} (h : S.ok) {a : Deed} (hf : a.fine S.n) : (a.eff S).ok := by
  cases a with
  | write b d => obtain ⟨h1, h2, h3⟩ := hf; exact wrote_ok h (by omega) h3
  | flush => exact flushed_ok h
theorem runD_ok {S : St} (h : S.ok) {L : List Deed} (hf : ∀ a ∈ L, a.fine S.n) : (runD S L).ok := by
  induction L generalizing S with
  | nil => exact h
  | cons a L ih => exact ih (Deed.eff_ok h (hf a (by simp))) fun x hx => by rw [a.eff_n]; exact hf x (by simp [hx])
/-- all of them are done, if so many are left -/
theorem deeds_live {S : St} {L : List Deed} (hf : ∀ a ∈ L, a.fine S.n) (hl : S.left < 0 ∨ (L.length : Int) ≤ S.left) : deeds S L = (0, runD S L) := by
  induction L generalizing S with
  | nil => rfl
  | cons a L ih =>
    rw [List.length_cons] at hl
    have h0 : S.left ≠ 0 := by omega
    have ha := hf a (by simp)
    have e : a.st S = a.eff S := by rw [Deed.st_fine ha, if_neg h0]
    rw [deeds_yes (by rw [Deed.code_fine ha, if_neg h0]), e, ih (fun x hx => by rw [a.eff_n]; exact hf x (by simp [hx])), runD_cons]
    rw [a.eff_left]; unfold lessOne
    by_cases h : 0 < S.left
    · rw [if_pos h]; omega
    · rw [if_neg h]; omega
/-- else as many as are left -/
theorem deeds_dead {S : St} {L : List Deed} (hf : ∀ a ∈ L, a.fine S.n) (h0 : 0 ≤ S.left) (hl : S.left < (L.length : Int)) : deeds S L = (61, runD S (L.take S.left.toNat)) := by
  induction L generalizing S with
  | nil => simp at hl; omega
  | cons a L ih =>
    rw [List.length_cons] at hl
    have ha := hf a (by simp)
    by_cases hz : S.left = 0
    · rw [deeds_no (by rw [Deed.code_fine ha, if_pos hz]; decide), Deed.code_fine ha, Deed.st_fine ha, if_pos hz, if_pos hz, hz]; rfl
    · have e : a.st S = a.eff S := by rw [Deed.st_fine ha, if_neg hz]
      have el : (a.eff S).left = S.left - 1 := by rw [a.eff_left]; unfold lessOne; rw [if_pos (by omega)]
      rw [deeds_yes (by rw [Deed.code_fine ha, if_neg hz]), e, ih (fun x hx => by rw [a.eff_n]; exact hf x (by simp [hx])) (by omega) (by omega), el]
      obtain ⟨k, hk⟩ : ∃ k : Nat, S.left = (k : Int) + 1 := ⟨(S.left - 1).toNat, by omega⟩
      rw [hk, show ((k : Int) + 1 - 1).toNat = k by omega, show ((k : Int) + 1).toNat = k + 1 by omega, List.take_succ_cons, runD_cons]

/-! ### what stands there -/
abbrev writesD (C : List (Int × ByteArray)) : List Deed := C.map fun c => Deed.write c.1 c.2
theorem rText_in {S : St} {x : Int} (h0 : 0 ≤ x) (h1 : x < (S.n : Int)) : rText S x = S.now x.toNat := by unfold rText; rw [if_pos ⟨h0, h1⟩]
theorem rText_flush (S : St) (x : Int) : rText S.flushed x = rText S x := rfl
theorem rText_wrote_at {S : St} {x : Int} {d : ByteArray} (h0 : 0 ≤ x) (h1 : x < (S.n : Int)) : rText (S.wrote x.toNat d) x = d := by
  have h1' : x < ((S.wrote x.toNat d).n : Int) := h1
  rw [rText_in h0 h1']; exact upd_same _ _ _
theorem rText_wrote_ne {S : St} {x y : Int} {d : ByteArray} (hx : 0 ≤ x) (h : y ≠ x) : rText (S.wrote x.toNat d) y = rText S y := by
  unfold rText
  show (if 0 ≤ y ∧ y < (S.n : Int) then upd S.now x.toNat d y.toNat else _) = _
  by_cases hy : 0 ≤ y ∧ y < (S.n : Int)
  · rw [if_pos hy, if_pos hy, upd_other _ (by omega)]
  · rw [if_neg hy, if_neg hy]
theorem rText_writes_out {C : List (Int × ByteArray)} {S : St} {y : Int} (hf : ∀ c ∈ C, 0 ≤ c.1) (h : y ∉ C.map Prod.fst) : rText (runD S (writesD C)) y = rText S y := by
  induction C generalizing S with
  | nil => rfl
  | cons c C ih =>
    rw [List.map_cons, List.mem_cons, not_or] at h
    show rText (runD ((Deed.write c.1 c.2).eff S) (writesD C)) y = _
    rw [ih (fun x hx => hf x (by simp [hx])) h.2]
    exact rText_wrote_ne (hf c (by simp)) h.1
theorem rText_writes_in {C : List (Int × ByteArray)} {S : St} (hf : ∀ c ∈ C, 0 ≤ c.1 ∧ c.1 < (S.n : Int)) (hn : (C.map Prod.fst).Nodup) {c : Int × ByteArray} (hc : c ∈ C) : rText (runD S (writesD C)) c.1 = c.2 := by
  induction C generalizing S with
  | nil => cases hc
  | cons a C ih =>
    rw [List.map_cons, List.nodup_cons] at hn
    show rText (runD ((Deed.write a.1 a.2).eff S) (writesD C)) c.1 = _
    rcases List.mem_cons.1 hc with e | e
    · subst e
      obtain ⟨h1, h2⟩ := hf c (by simp)
      rw [rText_writes_out (fun x hx => (hf x (by simp [hx])).1) hn.1]
      exact rText_wrote_at h1 h2
    · exact ih (fun x hx => hf x (by simp [hx])) hn.2 e
theorem writes_fine {n : Nat} {C : List (Int × ByteArray)} (h : ∀ c ∈ C, 0 ≤ c.1 ∧ c.1 < (n : Int) ∧ c.2.size = 128) : ∀ a ∈ writesD C, a.fine n := by
  intro a ha
  obtain ⟨c, hc, rfl⟩ := List.mem_map.1 ha
  exact h c hc
theorem fine_append {n : Nat} {A B : List Deed} (ha : ∀ a ∈ A, a.fine n) (hb : ∀ a ∈ B, a.fine n) : ∀ a ∈ A ++ B, a.fine n := fun a h => (List.mem_append.1 h).elim (ha a) (hb a)
theorem fine_flush {n : Nat} : ∀ a ∈ [Deed.flush], a.fine n := fun a h => by rw [List.mem_singleton.1 h]; exact trivial
theorem fine_one {n : Nat} {x : Int} {d : ByteArray} (h0 : 0 ≤ x) (h1 : x < (n : Int)) (h2 : d.size = 128) : ∀ a ∈ [Deed.write x d], a.fine n := fun a h => by rw [List.mem_singleton.1 h]; exact ⟨h0, h1, h2⟩
theorem up_nodup {l : List Int} (h : l.Pairwise (· < ·)) : l.Nodup := h.imp fun h => by omega
end Go.Proofs.YtanghmogeiiooaaGreatDoor

/- Acts that are closures or bound methods; a row of them, laid out. -/
namespace Go.Proofs.YtanghmogeiiooaaGreatDoor
set_option linter.unusedVariables false
open Go.RowKit

/-- a function value that does these deeds -/
def DoesV (d lo hi : Nat) (v : Value) (L : List Deed) (W : World) : Prop := ∃ id first caps, v = .func (.func id) first caps ∧ Does d lo hi id (first ++ caps) L W
theorem DoesV.kept {d lo hi : Nat} {v : Value} {L : List Deed} {W W1 : World} (h : DoesV d lo hi v L W) (z : Zone lo hi W W1) : DoesV d lo hi v L W1 := by
  obtain ⟨id, first, caps, e, h⟩ := h
  exact ⟨id, first, caps, e, h.kept z⟩
theorem DoesV.kept1 {d lo hi : Nat} {v : Value} {L : List Deed} {W W1 : World} (h : DoesV d lo hi v L W) (b : Below W.heap.size W W1) : DoesV d lo hi v L W1 := h.kept (Zone.of_below b _ _)
theorem does_clo {d lo hi : Nat} {id : FuncId} {caps : Array Value} {L : List Deed} {W : World} (h : Does d lo hi id caps L W) : DoesV d lo hi (.func (.func id) #[] caps) L W := ⟨id, #[], caps, rfl, by rw [Array.empty_append]; exact h⟩
set_option maxRecDepth 100000 in
theorem does_flush (d lo hi : Nat) (W : World) : DoesV d lo hi (.func (.func 40) #[.pointer (some ⟨d, 0, none⟩)] #[]) [.flush] W :=
  ⟨_, _, _, rfl, fun _ _ => rfl, fun W' S hz ha hd => by
    rw [deeds_one]
    exact (flush_any (show S.acts ≤ 1000000 by simp at ha; omega) W' hd).mono fun e w' h => h⟩
/-- v is a slice of such function values, outside of the device -/
def ActsRow2 (d lo hi : Nat) (v : Value) (Ls : List (List Deed)) (W : World) : Prop :=
  ∃ ad cap, v = .slice ad Ls.length cap ∧ Ls.length ≤ cap ∧ cap ≤ 9223372036854775807 ∧
    (0 < Ls.length → ∃ g o, ad = some ⟨g, o, none⟩ ∧ g < W.heap.size ∧ (g < lo ∨ hi ≤ g) ∧ ∀ k (hk : k < Ls.length), ∃ u, W.cell? ⟨g, o + k, none⟩ = some u ∧ DoesV d lo hi u Ls[k] W)
theorem acts_lit {d lo hi n : Nat} {vs : List Value} {Ls : List (List Deed)} (W : World) (hn : Ls.length = n) (hl : vs.length = n) (hn2 : n ≤ 1000) (hhi : hi ≤ W.heap.size) (h : ∀ k (h1 : k < vs.length) (h2 : k < Ls.length), DoesV d lo hi vs[k] Ls[k] W) :
    ActsRow2 d lo hi (.slice (some ⟨W.heap.size, 0, none⟩) n n) Ls (W.alloc (.cells vs.toArray 95)) := by
  refine ⟨_, _, by rw [hn], by omega, by omega, fun _ => ⟨W.heap.size, 0, rfl, by rw [size_alloc]; omega, .inr hhi, fun k hk => ⟨vs[k], ?_, (h k (by omega) hk).kept1 (balloc1 _ _)⟩⟩⟩
  rw [Nat.zero_add, (Blk.new vs.toArray 95 W).cell k]
  simp [hl, hn ▸ hk]
set_option maxRecDepth 100000 in
set_option maxHeartbeats 4000000 in
theorem do_any2 {d lo hi : Nat} {S : St} {Ls : List (List Deed)} (v : Value) (w : World) (h : DevAt d lo hi S w) (hv : ActsRow2 d lo hi v Ls w) (ha : S.acts + Ls.flatten.length ≤ 1000000) :
    Calls Tryz.prog 37 #[v] w fun e w' => e = .returned (.int .i64 (deeds S Ls.flatten).1) ∧ DevAt d lo hi (deeds S Ls.flatten).2 w' ∧ Zone lo hi w w' := by
  obtain ⟨ad, cap, rfl, h1, h2, h3⟩ := hv
  have H3 := Lib.hid h3
  have HD := Lib.hid h
  clear h h3
  go_enter Tryz.func37, Tryz.ntmps37
  go_wp2
  go_loopw [8] (fun q wr => ∃ (k : Nat) (S2 : St), q = .int .i64 k ∧ k ≤ Ls.length ∧ Hid (deeds S (Ls.take k).flatten = (0, S2)) ∧ DevAt d lo hi S2 wr ∧ Zone lo hi w wr) (fun q _ => Ls.length - (intOf q).toNat)
  case atStart => exact ⟨0, S, rfl, Nat.zero_le _, Lib.hid rfl, HD.out, Zone.refl _ _ _⟩
  case round =>
    obtain ⟨k, S2, rfl, hk, HS, hd, hz⟩ := hrel
    by_cases hlt : k < Ls.length
    · obtain ⟨g, o, rfl, hg, ho, hc⟩ := H3.out (by omega)
      obtain ⟨u, c1, id, first, caps, rfl, dd⟩ := hc k hlt
      have c1 := (zone_cell hz hg ho).trans c1
      have hent := dd.ent
      have hacts : S2.acts + (Ls[k]).length ≤ 1000000 := by
        have e1 := deeds_acts S (Ls.take k).flatten
        rw [HS.out] at e1
        have e2 := flat_take_le Ls (k + 1)
        rw [flat_take_succ hlt, List.length_append] at e2
        have e1 : S2.acts ≤ _ := e1
        omega
      have R := dd.run wr S2 hz hacts hd
      have HU := Lib.hid (deeds_upto hlt HS.out)
      have HST := Lib.hid (deeds_stop (S := S) (l := Ls) (k := k + 1))
      obtain ⟨c, S3, hcs⟩ : ∃ c S3, deeds S2 Ls[k] = (c, S3) := ⟨_, _, rfl⟩
      rw [hcs] at R HU
      have R := Lib.hid R
      have HZ := Lib.hid hz
      clear hc dd hd hcs HS hz H3 HD hg ho
      go_wp2_with fail
      refine R.out.mono ?_; rintro e w2 ⟨rfl, hd2, hz2⟩
      have HZ2 := Lib.hid (HZ.out.trans hz2)
      have HD2 := Lib.hid hd2
      clear R hd2 hz2 HZ c1
      by_cases hc0 : c = 0
      · subst hc0
        go_wp2
        exact ⟨⟨k + 1, S3, by go_num, by omega, HU, HD2.out, HZ2.out⟩, by simp [intOf]; omega⟩
      · have hc1 : (c != 0) = true := by rw [bne_iff_ne]; exact hc0
        have e : deeds S Ls.flatten = (c, S3) := by
          rw [HST.out (by rw [HU.out]; exact hc0), HU.out]
        have HE := Lib.hid e
        clear e HU HST
        go_wp2
        go_ret
        rw [HE.out]
        exact ⟨rfl, HD2.out, HZ2.out⟩
    · obtain rfl : k = Ls.length := by omega
      have e := HS.out
      rw [List.take_length] at e
      have HE := Lib.hid e
      clear e HS H3 HD
      go_wp2
      go_ret
      rw [HE.out]
      exact ⟨rfl, hd, hz⟩
end Go.Proofs.YtanghmogeiiooaaGreatDoor

/- Clone, made, New, Open. -/
namespace Go.Proofs.YtanghmogeiiooaaGreatDoor
set_option linter.unusedVariables false
open Go.RowKit

theorem u8_info : (Tryz.prog.info? 5).map (fun i => (i.zero, i.size, i.bytes)) = some (some (.int .u8 0), 1, 1) := by kernel_rfl
theorem bool_info : (Tryz.prog.info? 4).map (fun i => (i.zero, i.size, i.bytes)) = some (some (.bool false), 1, 1) := by kernel_rfl
theorem equal_nil (w : World) (p : Addr) (n c : Nat) : ∀ d, (Op.equalIn (d + 1) 43 (.slice (some p) n c) (.slice none 0 0)).run Tryz.prog w = .ok false w := fun d => by
  simp [Op.equalIn, run_underlying Tryz.underlying43]
theorem run_eql_nil (w : World) (p : Addr) (n c : Nat) : (binOp .eql 43 (.slice (some p) n c) (.slice none 0 0)).run Tryz.prog w = .ok (.bool false) w := by
  have h : (Op.equal 43 (.slice (some p) n c) (.slice none 0 0)).run Tryz.prog w = .ok false w := equal_nil w p n c 9999
  simp only [binOp]
  simp [h]
theorem clone_any (g n cap : Nat) (F : Nat → Value) (hF : ∀ j, j < n → (F j).oneCell' = true) (h0 : 0 < n) (hn : n ≤ 4096 * 128) (hc : n ≤ cap ∧ cap ≤ 9223372036854775807) (w : World) (h : CellsAt g n F w) :
    Calls Tryz.prog 33 #[.slice (some ⟨g, 0, none⟩) n cap] w fun e w' => ∃ gk ck, e = .returned (.slice (some ⟨gk, 0, none⟩) n ck) ∧ (n ≤ ck ∧ ck ≤ 9223372036854775807) ∧ CellsAt gk n F w' ∧ w.heap.size ≤ gk ∧ gk < w'.heap.size ∧ Below w.heap.size w w' := by
  obtain ⟨i0, hi, hz0, hz1, hz2⟩ := info_parts u8_info
  obtain ⟨w0, hw0⟩ : ∃ w0, w0 = w.alloc (.cells #[] 5) := ⟨_, rfl⟩
  have hown : w0.ownsRow w.heap.size 5 1 (.slice (some ⟨w.heap.size, 0, none⟩) 0 0) 0 [] := by
    rw [hw0]
    exact World.ownsRow_lit (e := 5) (size := 1) w #[] 0 (Nat.le_refl _) (by unfold maxLen; omega) rfl
  have h1 : CellsAt g n F w0 := by rw [hw0]; exact h.kept1 (balloc1 _ _)
  have b0 : Below w.heap.size w w0 := by rw [hw0]; exact balloc1 _ _
  have hw0' : w.alloc (.cells #[] 5) = w0 := hw0.symm
  have H1 := Lib.hid h1
  clear h hw0 h1
  have hq := run_eql_nil
  go_enter Tryz.func33, Tryz.ntmps33
  go_wp2_with (at_builtin; refine wpList_append_own _ rfl _ _ 43 rfl w.heap.size 5 i0 (.int .u8 0) 1 1 Tryz.underlying43 hi hz0 hz1 hz2 rfl (by decide) _ _ _ rfl hown ⟨g, 0, none⟩ n cap (cellsL n F) rfl (by simp [cellsL_length]) (fun j v hj => by obtain ⟨h2, h3⟩ := cellsL_some hj; rw [add_at, Nat.zero_add, (H1.out.2 j h2).1, h3]) (fun v hv => by obtain ⟨j, hj, rfl⟩ := List.mem_map.1 hv; exact hF j (List.mem_range.1 hj)) (by unfold maxLen; omega) (by omega) b0.size ?_)
  intro v' w1 hown' hgrow _
  have b1 := b0.trans (below_of_row hown hgrow b0.size)
  obtain ⟨ad, ck, rfl, s1, s2, s3⟩ := shape_of hown'
  obtain ⟨gk, rfl, s4, s5⟩ := s3 h0
  have hk := CellsAt.of_row (F := F) hown' fun j hj => cellsL_at j hj
  have HK := Lib.hid hk
  clear hown hown' hgrow s3 b0 hk
  go_wp2
  go_ret
  exact ⟨gk, ck, rfl, ⟨s1, s2⟩, HK.out, s4, s5, b1⟩

/-- a device that begins with these blocks -/
def freshSt (n : Nat) (f : Nat → ByteArray) : St := ⟨n, f, f, fun _ => false, -1, 0⟩
theorem fresh_ok {n : Nat} {f : Nat → ByteArray} (h1 : 1 ≤ n) (h2 : n ≤ 4096) (hz : ∀ b, b < n → (f b).size = 128) : (freshSt n f).ok :=
  ⟨h1, h2, hz, hz, by show (-1 : Int) ≤ -1 ∧ (-1 : Int) ≤ _; omega, fun _ _ _ => rfl⟩
theorem bools_made (n : Nat) (hn : n ≤ 4096) (w : World) :
    (Instr.makeSlice 25 (.int .i64 n) (.int .i64 n)).run Tryz.prog w = .ok (.slice (some ⟨w.heap.size, 0, none⟩) n n) (w.alloc (.cells (madeCells #[.bool false] n) 4)) := by
  obtain ⟨i, hi, hz, hs, hb⟩ := info_parts bool_info
  have h := run_make (P := Tryz.prog) w 25 4 i (.bool false) Tryz.underlying25 hi hz .i64 .i64 n n (by omega) (Int.le_refl _) (by rw [hb]; omega) (by omega)
  simpa [hs, Value.cells] using h
theorem u8s_made (n : Nat) (hn : n ≤ 4096 * 128) (w : World) :
    (Instr.makeSlice 43 (.int .i64 n) (.int .i64 n)).run Tryz.prog w = .ok (.slice (some ⟨w.heap.size, 0, none⟩) n n) (w.alloc (.cells (madeCells #[.int .u8 0] n) 5)) := by
  obtain ⟨i, hi, hz, hs, hb⟩ := info_parts u8_info
  have h := run_make (P := Tryz.prog) w 43 5 i (.int .u8 0) Tryz.underlying43 hi hz .i64 .i64 n n (by omega) (Int.le_refl _) (by rw [hb]; omega) (by omega)
  simpa [hs, Value.cells] using h
theorem madeCells_at (z : Value) (n j : Nat) (h : j < n) : (madeCells #[z] n)[j]? = some z := by
  have e : (madeCells #[z] n)[j]? = (madeCells #[z] n).toList[j]? := by simp
  rw [e, toList_madeCells_one]; simp [h]
abbrev madeC (gn gk gp n cn ck : Nat) : Array Value := #[.pointer none, .slice (some ⟨gn, 0, none⟩) (n * 128) cn, .slice (some ⟨gk, 0, none⟩) (n * 128) ck, .slice (some ⟨gp, 0, none⟩) n n, .int .i64 (-1), .int .i64 0]
theorem made_end {gn gk gp d n cn ck : Nat} {f : Nat → ByteArray} {w w2 : World} (h1 : 1 ≤ n) (h2 : n ≤ 4096) (hz : ∀ b, b < n → (f b).size = 128) (hc : n * 128 ≤ cn ∧ cn ≤ 9223372036854775807) (hck : n * 128 ≤ ck ∧ ck ≤ 9223372036854775807)
    (h : CellsAt gn (n * 128) (byF f) w) (hk : CellsAt gk (n * 128) (byF f) w2) (hp : CellsAt gp n (fun _ => .bool false) w2) (hd : Blk d (madeC gn gk gp n cn ck) 82 w2) (b : Below w.heap.size w w2)
    (k1 : w.heap.size ≤ gk) (k2 : w.heap.size ≤ gp) (k3 : w.heap.size ≤ d) (k4 : gk ≠ gp) (k5 : gk ≠ d) (k6 : gp ≠ d) :
    DevAt d gn (w2.setCell ⟨d, 0, none⟩ (.pointer (some ⟨d, 0, none⟩))).heap.size (freshSt n f) (w2.setCell ⟨d, 0, none⟩ (.pointer (some ⟨d, 0, none⟩))) ∧ Below w.heap.size w (w2.setCell ⟨d, 0, none⟩ (.pointer (some ⟨d, 0, none⟩))) := by
  have hg := h.1
  have hn2 := h.kept1 b
  have s : (w2.setCell ⟨d, 0, none⟩ (.pointer (some ⟨d, 0, none⟩))).heap.size = w2.heap.size := by simp [World.setCell]
  refine ⟨⟨gn, gk, gp, cn, ck, -1, fresh_ok h1 h2 hz, hd.set 0 _, hn2.other (by show d ≠ gn; omega) _, hk.other (by show d ≠ gk; omega) _, hp.other (by show d ≠ gp; omega) _, rfl, ⟨by omega, by omega⟩, hc, hck, ?_, ?_, ?_, ?_, Nat.le_refl _, by omega, by omega, by omega, by omega, by omega, by omega⟩, b.setCell k3 _⟩
  · have := hd.lt; omega
  · have := hn2.1; omega
  · have := hk.1; omega
  · have := hp.1; omega
set_option maxHeartbeats 2000000 in
theorem made_any (gn n cn : Nat) (f : Nat → ByteArray) (h1 : 1 ≤ n) (h2 : n ≤ 4096) (hz : ∀ b, b < n → (f b).size = 128) (hc : n * 128 ≤ cn ∧ cn ≤ 9223372036854775807) (w : World) (h : CellsAt gn (n * 128) (byF f) w) :
    Calls Tryz.prog 32 #[.slice (some ⟨gn, 0, none⟩) (n * 128) cn] w fun e w' => ∃ d, e = .returned (.pointer (some ⟨d, 0, none⟩)) ∧ DevAt d gn w'.heap.size (freshSt n f) w' ∧ Below w.heap.size w w' := by
  have C := Lib.hid fun w1 (b : Below w.heap.size w w1) => clone_any gn (n * 128) cn (byF f) (fun j _ => byF_one f j) (by omega) (by omega) hc w1 (h.kept1 b)
  have hm := bools_made n h2
  have b0 : Below w.heap.size w w.drew := (Below.refl _ _).drew
  have hdiv : ((n : Int) * 128).tdiv 128 = (n : Int) := by
    rw [Int.mul_tdiv_cancel _ (by decide)]
  have hwr : IntKind.i64.wrap (n : Int) = (n : Int) := IntWalk.i64_in _ (by omega)
  go_enter Tryz.func32, Tryz.ntmps32
  go_wp2
  go_region_held3 (fun w' => Below w.heap.size w w') (first | assumption | exact balloc (by assumption) _) (first | (go_at_call 33; refine (C.out _ (by assumption)).mono ?_; rintro e w1 ⟨gk, ck, rfl, hck, hk, k1, k2, bk⟩; have bk2 := bnext (by assumption) bk))
  · have hk := (hk.kept1 (balloc1 _ (.cells (madeCells #[.bool false] n) 4))).kept1 (balloc1 _ (.cells (madeC gn gk w1.heap.size n cn ck) 82))
    have hp := (CellsAt.alloc_new w1 (madeCells #[.bool false] n) 4 n (fun _ => .bool false) fun j hj => madeCells_at _ _ _ hj).kept1 (balloc1 _ (.cells (madeC gn gk w1.heap.size n cn ck) 82))
    have hd := Blk.new (madeC gn gk w1.heap.size n cn ck) 82 (w1.alloc (.cells (madeCells #[.bool false] n) 4))
    rw [size_alloc] at hd
    have hb : Below w.heap.size w ((w1.alloc (.cells (madeCells #[.bool false] n) 4)).alloc (.cells (madeC gn gk w1.heap.size n cn ck) 82)) := balloc (balloc bk2 _) _
    have k3 : w.heap.size ≤ gk := k1
    have hs := bk2.size
    generalize ((w1.alloc (.cells (madeCells #[.bool false] n) 4)).alloc (.cells (madeC gn gk w1.heap.size n cn ck) 82)) = w2 at *
    have HE := Lib.hid (made_end h1 h2 hz hc hck h hk hp hd hb k3 (by omega) (by omega) (by omega) (by omega) (by omega))
    have c0 := hd.cell 0
    have f0 := hd.frozen 0
    clear hk hp hd hb bk bk2 C hm h hz k1 k3
    go_wp2
    go_ret
    exact ⟨_, rfl, HE.out⟩
  · have hp := (CellsAt.alloc_new w (madeCells #[.bool false] n) 4 n (fun _ => .bool false) fun j hj => madeCells_at _ _ _ hj)
    have hk := hk.kept1 (balloc1 _ (.cells (madeC gn gk w.heap.size n cn ck) 82))
    have hp := (CellsAt.eq_block (w' := w1) hp (by have := bk.size; exact this) (bk.block w.heap.size (by show _ < (w.alloc _).heap.size; rw [size_alloc]; omega))).kept1 (balloc1 _ (.cells (madeC gn gk w.heap.size n cn ck) 82))
    have hd := Blk.new (madeC gn gk w.heap.size n cn ck) 82 w1
    have hb : Below w.heap.size w (w1.alloc (.cells (madeC gn gk w.heap.size n cn ck) 82)) := balloc bk2 _
    have k3 : w.heap.size + 1 ≤ gk := by have h : (w.alloc (.cells (madeCells #[.bool false] n) 4)).heap.size ≤ gk := k1; rw [size_alloc] at h; exact h
    have hs : w.heap.size + 1 ≤ w1.heap.size := by omega
    generalize (w1.alloc (.cells (madeC gn gk w.heap.size n cn ck) 82)) = w2 at *
    have HE := Lib.hid (made_end h1 h2 hz hc hck h hk hp hd hb (by omega) (by omega) (by omega) (by omega) (by omega) (by omega))
    have c0 := hd.cell 0
    have f0 := hd.frozen 0
    clear hk hp hd hb bk bk2 C hm h hz k1 k3
    go_wp2
    go_ret
    exact ⟨_, rfl, HE.out⟩
end Go.Proofs.YtanghmogeiiooaaGreatDoor

/- New. -/
namespace Go.Proofs.YtanghmogeiiooaaGreatDoor
set_option linter.unusedVariables false
open Go.RowKit

theorem len_of (s : ByteArray) : s.toList.length = s.size := by rw [ByteArray.toList_eq]; simp
theorem ne_empty {s : ByteArray} (h : s.size ≠ 0) : (s.toList == []) = false := by
  rw [beq_eq_false_iff_ne]; intro e
  have := len_of s
  rw [e] at this; exact h this.symm
theorem text_eq {s t : ByteArray} (h : s.toList = t.toList) : s = t := by
  rw [ByteArray.toList_eq, ByteArray.toList_eq] at h
  cases s; cases t
  simp at h; rw [h]
def zeros : ByteArray := ⟨Array.replicate 128 0⟩
def zeroB : Nat → ByteArray := fun _ => zeros
theorem zeros_size : zeros.size = 128 := by simp [zeros, ByteArray.size]
theorem zeros_at (j : Nat) : byteAt zeros j = 0 := by
  unfold byteAt zeros
  by_cases h : j < 128
  · simp [h]
  · simp [show 128 ≤ j by omega]
theorem byF_zero (k : Nat) : byF zeroB k = .int .u8 0 := by unfold byF zeroB; rw [zeros_at]
set_option maxRecDepth 100000 in
set_option maxHeartbeats 1000000 in
theorem new_yes (n : Nat) (h1 : 1 ≤ n) (h2 : n ≤ 4096) (w : World) :
    Calls Tryz.prog 29 #[.int .i64 (n : Int)] w fun e w' => ∃ d, e = .returned (.tuple #[.pointer (some ⟨d, 0, none⟩), .int .i64 0]) ∧ DevAt d w.heap.size w'.heap.size (freshSt n zeroB) w' ∧ Below w.heap.size w w' := by
  have hm : (Instr.makeSlice 43 (.int .i64 ((n : Int) * 128)) (.int .i64 ((n : Int) * 128))).run Tryz.prog w = .ok (.slice (some ⟨w.heap.size, 0, none⟩) (n * 128) (n * 128)) (w.alloc (.cells (madeCells #[.int .u8 0] (n * 128)) 5)) := by
    have := u8s_made (n * 128) (by omega) w
    simpa using this
  have hc : CellsAt w.heap.size (n * 128) (byF zeroB) (w.alloc (.cells (madeCells #[.int .u8 0] (n * 128)) 5)) :=
    CellsAt.alloc_new _ _ _ _ _ fun j hj => by rw [byF_zero]; exact madeCells_at _ _ _ hj
  have hb : Below w.heap.size w (w.alloc (.cells (madeCells #[.int .u8 0] (n * 128)) 5)) := balloc1 _ _
  generalize (w.alloc (.cells (madeCells #[.int .u8 0] (n * 128)) 5)) = w1 at *
  have M := Lib.hid (made_any w.heap.size n (n * 128) zeroB h1 h2 (fun _ _ => zeros_size) ⟨Nat.le_refl _, by omega⟩ w1 hc)
  clear hc
  go_enter Tryz.func29, Tryz.ntmps29
  go_wp2_with fail
  refine M.out.mono ?_; rintro e w2 ⟨d, rfl, hd, b⟩
  have hb2 := bnext hb b
  have HD := Lib.hid hd
  clear b M hd
  go_wp2
  go_ret2
  exact ⟨d, rfl, HD.out, hb2⟩
theorem new_no (n : Int) (h : n < 1 ∨ 4096 < n) (w : World) :
    Calls Tryz.prog 29 #[.int .i64 n] w fun e w' => e = .returned (.tuple #[.pointer none, .int .i64 2]) ∧ w = w' := by
  rcases h with h | h
  · go_enter Tryz.func29, Tryz.ntmps29
    go_wp2
    go_ret2
    exact ⟨rfl, rfl⟩
  · have h1 : 1 ≤ n := by omega
    go_enter Tryz.func29, Tryz.ntmps29
    go_wp2
    go_ret2
    exact ⟨rfl, rfl⟩
end Go.Proofs.YtanghmogeiiooaaGreatDoor
