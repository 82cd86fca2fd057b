import Derived.Test.YtknefoemgifbfaaGreatPd28
import Derived.Test.YtknefoemgifbfaaGreatPd22
import Derived.Test.YtknefoemgifbfaaGreatPd29
import Derived.Shelf.Abstract
set_option linter.unusedVariables false
set_option linter.unusedSimpArgs false
set_option linter.constructorNameAsVariable false
set_option maxRecDepth 100000
set_option maxHeartbeats 16000000
namespace Go.Proofs.YtknefoemgifbfaaGreat
open Go.RowKit
abbrev Nx (σ : Type) : Type := σ → (Int × Int) × σ
structure FreshFn {σ : Type} (nx : Nx σ) (fn : Nat) (first caps : Array Value) (go : σ → Prop) (I : σ → World → Prop) (C B : Nat) : Prop where
 ent : ∀ args w, (callFunc fn args).run Tryz.prog w = .ok (.enter fn args) w
 call : ∀ s W, go s → B ≤ W.heap.size → I s W → Calls Tryz.prog fn (first ++ caps) W fun e W' => e = .returned (.tuple #[.int .i64 (nx s).1.1, .int .i64 (nx s).1.2]) ∧ I (nx s).2 W' ∧ Turns noTree C W W' ∧ ∀ k, B ≤ k → k < W.heap.size → W'.heap[k]? = W.heap[k]?
 keep : ∀ s W W', B ≤ W.heap.size → I s W → Below B W W' → I s W'
 next : ∀ s, go s → (nx s).1.2 = 0 → go (nx s).2
def askA {σ : Type} (nx : Nx σ) (T : List (Int × Int)) (s : σ) : Int × Int :=
 if (nx s).1.2 = 0 then (if usableA (nx s).1.1 = true ∧ ¬ elemR T (nx s).1.1 then ((nx s).1.1, 0) else (0, 2)) else (0, (nx s).1.2)
theorem fr_equal_nil (w : World) (fn : Nat) (first caps : Array Value) : ∀ d, (Op.equalIn (d + 1) 129 (.func (.func fn) first caps) .nilFunc).run Tryz.prog w = .ok false w := fun d => by
 simp [Op.equalIn, run_underlying Tryz.underlying129]
theorem fr_run_nil (w : World) (fn : Nat) (first caps : Array Value) : (binOp .eql 129 (.func (.func fn) first caps) .nilFunc).run Tryz.prog w = .ok (.bool false) w := by
 have h : (Op.equal 129 (.func (.func fn) first caps) .nilFunc).run Tryz.prog w = .ok false w := fr_equal_nil w fn first caps 9999;simp only [binOp]
 simp [h]
theorem fkask_any {σ : Type} (nx : Nx σ) (fn : Nat) (first caps : Array Value) (go : σ → Prop) (I : σ → World → Prop) (C B : Nat) (hF : FreshFn nx fn first caps go I C B) (T : List (Int × Int)) (hT : fitR T) (s : σ) (v : Value) (w : World) (hgo : go s) (hB : B ≤ w.heap.size) (hI : I s w) (hv : RunsAt B v T w) :
 Calls Tryz.prog 104 #[.func (.func fn) first caps, v] w fun e w' => e = .returned (.tuple #[.int .i64 (askA nx T s).1, .int .i64 (askA nx T s).2]) ∧ I (nx s).2 w' ∧ Turns noTree C w w' ∧ ∀ k, B ≤ k → k < w.heap.size → w'.heap[k]? = w.heap[k]? := by
 have hent := hF.ent;have HF := Lib.hid (hF.call s w hgo hB hI);have HKP : Hid (∀ w2 w3, B ≤ w2.heap.size → I (nx s).2 w2 → Below w2.heap.size w2 w3 → I (nx s).2 w3) := Lib.hid fun w2 w3 h0 h1 h2 => hF.keep _ _ _ h0 h1 (h2.mono h0);have HV := Lib.hid hv;obtain ⟨b, hb⟩ : ∃ b, (nx s).1.1 = b := ⟨_, rfl⟩;obtain ⟨ec, hec⟩ : ∃ c, (nx s).1.2 = c := ⟨_, rfl⟩;obtain ⟨s2, hs2⟩ : ∃ c, (nx s).2 = c := ⟨_, rfl⟩;rw [hb, hec, hs2] at HF;rw [hs2] at HKP ⊢;obtain ⟨A, hA⟩ : ∃ A, askA nx T s = A := ⟨_, rfl⟩;have HA : Hid (A = if ec = 0 then (if usableA b = true ∧ ¬ elemR T b then (b, 0) else (0, 2)) else (0, ec)) := Lib.hid (by rw [← hA, ← hb, ← hec]; rfl);rw [hA];obtain ⟨ra, re⟩ := A;have HU : Hid (∀ W, Calls Tryz.prog 64 #[.int .i64 b] W fun e w' => e = .returned (.bool (usableA b)) ∧ w' = W) := Lib.hid fun W => usable_any b W;obtain ⟨us, hus⟩ : ∃ u, usableA b = u := ⟨_, rfl⟩;rw [hus] at HU HA;have HT := Lib.hid hT;clear hb hec hs2 hA hus hF hI hv hT hgo;obtain ⟨va, vc, rfl, -, vc2, -⟩ := shape_of HV.out;have vc2 : vc ≤ 9223372036854775807 := vc2;dsimp only;have hnil := fr_run_nil w fn first caps
 go_enter Tryz.func104, Tryz.ntmps104
 go_wp2_with fail
 refine HF.out.mono ?_; rintro e w2 ⟨rfl, hI2, ht2, hf2⟩;have HI2 := Lib.hid hI2;have HT2 := Lib.hid ht2;have HF2 := Lib.hid hf2;have HV2 : Hid (RunsAt B (.slice va T.length vc) T w2) := Lib.hid (own_eq HV.out fun q hq => hf2 q (own_ty HV.out hq).2.2 (own_ty HV.out hq).2.1);have hw2 := ht2.size;clear hI2 ht2 hf2 HF HV;by_cases h0 : ec = 0
 ·subst h0
  have hz : ((0 : Int) != 0) = false := rfl;go_wp2_with fail
  refine (HU.out _).mono ?_; rintro e w3 ⟨rfl, rfl⟩
  cases us with
  | false =>
    have HR : Hid ((ra, re) = ((0, 2) : Int × Int)) := Lib.hid (by rw [HA.out]; simp);go_wp2
    go_ret2
    obtain ⟨rfl, rfl⟩ := Prod.mk.inj HR.out;exact ⟨rfl, HI2.out, HT2.out, HF2.out⟩
  | true =>
    have HH := Lib.hid (has_any T HT.out _ b w3 (runsAt_in HV2.out));by_cases hel : elemR T b
    ·rw [decide_eq_true hel] at HH
     have HR : Hid ((ra, re) = ((0, 2) : Int × Int)) := Lib.hid (by rw [HA.out]; simp [hel]);clear hel;go_wp2_with fail
     refine HH.out.mono ?_; rintro e w4 ⟨rfl, b4⟩;have hw4 := b4.size;have HI4 := Lib.hid (HKP.out _ _ (by omega) HI2.out b4);have HT4 := Lib.hid (HT2.out.trans (Turns.of_below b4));have HF4 : Hid (∀ k, B ≤ k → k < w.heap.size → w4.heap[k]? = w.heap[k]?) := Lib.hid fun k h1 h2 => (b4.block k (by omega)).trans (HF2.out k h1 h2);clear b4;go_wp2
     go_ret2
     obtain ⟨rfl, rfl⟩ := Prod.mk.inj HR.out;exact ⟨rfl, HI4.out, HT4.out, HF4.out⟩
    ·rw [decide_eq_false hel] at HH
     have HR : Hid ((ra, re) = ((b, 0) : Int × Int)) := Lib.hid (by rw [HA.out]; simp [hel]);clear hel;go_wp2_with fail
     refine HH.out.mono ?_; rintro e w4 ⟨rfl, b4⟩;have hw4 := b4.size;have HI4 := Lib.hid (HKP.out _ _ (by omega) HI2.out b4);have HT4 := Lib.hid (HT2.out.trans (Turns.of_below b4));have HF4 : Hid (∀ k, B ≤ k → k < w.heap.size → w4.heap[k]? = w.heap[k]?) := Lib.hid fun k h1 h2 => (b4.block k (by omega)).trans (HF2.out k h1 h2);clear b4;go_wp2
     go_ret2
     obtain ⟨rfl, rfl⟩ := Prod.mk.inj HR.out;exact ⟨rfl, HI4.out, HT4.out, HF4.out⟩
 ·have te : (ec == 0) = false := by rw [beq_eq_false_iff_ne]; exact h0
  have tn : (ec != 0) = true := by rw [bne_iff_ne]; exact h0
  have HR : Hid ((ra, re) = ((0, ec) : Int × Int)) := Lib.hid (by rw [HA.out, if_neg h0]);clear h0;go_wp2
  go_ret2
  obtain ⟨rfl, rfl⟩ := Prod.mk.inj HR.out;exact ⟨rfl, HI2.out, HT2.out, HF2.out⟩
structure Freshes {σ : Type} (nx : Nx σ) (fv : Value) (go : σ → Prop) (I : σ → World → Prop) (C B : Nat) : Prop where
 val : fv = .nilFunc ∨ ∃ fn first caps, fv = .func (.func fn) first caps
 ask : ∀ (T : List (Int × Int)) (hT : fitR T) (s : σ) (v : Value) (w : World), go s → B ≤ w.heap.size → I s w → RunsAt B v T w →
  Calls Tryz.prog 104 #[fv, v] w fun e w' => e = .returned (.tuple #[.int .i64 (askA nx T s).1, .int .i64 (askA nx T s).2]) ∧ I (nx s).2 w' ∧ Turns noTree C w w' ∧ ∀ k, B ≤ k → k < w.heap.size → w'.heap[k]? = w.heap[k]?
 keep : ∀ s W W', B ≤ W.heap.size → I s W → Below B W W' → I s W'
 next : ∀ s, go s → (nx s).1.2 = 0 → go (nx s).2
theorem fresh_fn {σ : Type} {nx : Nx σ} {fn : Nat} {first caps : Array Value} {go : σ → Prop} {I : σ → World → Prop} {C B : Nat} (hF : FreshFn nx fn first caps go I C B) : Freshes nx (.func (.func fn) first caps) go I C B :=
 ⟨.inr ⟨fn, first, caps, rfl⟩, fun T hT s v w hgo hB hI hv => fkask_any nx fn first caps go I C B hF T hT s v w hgo hB hI hv, hF.keep, hF.next⟩
theorem fr_equal_none (w : World) : ∀ d, (Op.equalIn (d + 1) 129 .nilFunc .nilFunc).run Tryz.prog w = .ok true w := fun d => by
 simp [Op.equalIn, run_underlying Tryz.underlying129]
theorem fr_run_none (w : World) : (binOp .eql 129 .nilFunc .nilFunc).run Tryz.prog w = .ok (.bool true) w := by
 have h : (Op.equal 129 .nilFunc .nilFunc).run Tryz.prog w = .ok true w := fr_equal_none w 9999;simp only [binOp]
 simp [h]
def nxNil : Nx Unit := fun s => ((0, 2), s)
theorem fresh_nil (C B : Nat) : Freshes nxNil .nilFunc (fun _ => True) (fun _ _ => True) C B := by
 refine ⟨.inl rfl, fun T hT s v w _ hB _ hv => ?_, fun _ _ _ _ _ _ => trivial, fun _ _ _ => trivial⟩;have hnil := fr_run_none w;have HA : Hid (askA nxNil T s = (0, 2)) := Lib.hid rfl;obtain ⟨va, vc, rfl, -, -, -⟩ := shape_of hv;rw [HA.out]
 go_enter Tryz.func104, Tryz.ntmps104
 go_wp2
 go_ret2
 exact ⟨rfl, trivial, Turns.refl _ _ _, fun _ _ _ => rfl⟩
open Go.RowKit
abbrev toldC (vl : Value) (s : Nat) : Array Value := #[vl, .int .i64 (s : Int)]
def toldN (L : List Int) : Nx Nat := fun s => (if s < L.length ∧ (L[s]?).getD 0 ≠ -1 then ((L[s]?).getD 0, 0) else (0, 170), s + 1)
structure ToldI (A X : Nat) (vl : Value) (L : List Int) (s : Nat) (W : World) : Prop where
 b : Blk X (toldC vl s) 68 W
 l : ∀ W', Below A W W' → IntsR vl L W'
 le : A ≤ X
theorem ToldI.cells {A X : Nat} {vl : Value} {L : List Int} {s : Nat} {W : World} (h : ToldI A X vl L s W) : ∃ ad cap, vl = .slice ad L.length cap ∧ cap ≤ 9223372036854775807 ∧ L.length ≤ cap ∧ ∀ k (hk : k < L.length), ∃ g o, ad = some ⟨g, o, none⟩ ∧ ∀ W', Below A W W' → W'.cell? ⟨g, o + k, none⟩ = some (.int .i64 L[k]) := by
 obtain ⟨ad, cap, rfl, h1, h2, h3, -⟩ := (h.l W (Below.refl _ _)).shape;refine ⟨ad, cap, rfl, h2, h1, fun k hk => ?_⟩;obtain ⟨g, o, rfl, hg, -⟩ := h3 (by rw [List.length_map]; omega);refine ⟨g, o, rfl, fun W' hb => ?_⟩;obtain ⟨ad', cap', e, -, -, h3', -⟩ := (h.l W' hb).shape
 cases e
 obtain ⟨g', o', e', -, hc⟩ := h3' (by rw [List.length_map]; omega)
 cases e'
 exact hc k _ (by rw [List.getElem?_map, List.getElem?_eq_getElem hk]; rfl)
theorem ToldI.kept {A X : Nat} {vl : Value} {L : List Int} {s : Nat} {W W' : World} (h : ToldI A X vl L s W) {B : Nat} (hX : X < B) (b : Below B W W') : ToldI A X vl L s W' :=
 ⟨(b.block X hX).trans h.b, fun W'' hb => h.l W'' ((b.mono (by have := h.le; omega)).trans hb), h.le⟩
theorem ToldI.kept1 {A X : Nat} {vl : Value} {L : List Int} {s : Nat} {W W' : World} (h : ToldI A X vl L s W) (b : Below W.heap.size W W') : ToldI A X vl L s W' := h.kept h.b.lt b
theorem ToldI.grown {A X Y : Nat} {vl : Value} {L : List Int} {s : Nat} {W W' : World} (h : ToldI A X vl L s W) (g : W.grownBy W' (some Y)) (hY : A ≤ Y) (hne : X ≠ Y) : ToldI A X vl L s W' :=
 have hl : A ≤ W.heap.size := by have := h.le; have := h.b.lt; omega
 have b : Below A W W' := ⟨g.os, g.tape, g.output, g.size, fun k hk => g.block k (by omega) fun e => by cases e; omega⟩
 ⟨(g.block X h.b.lt fun e => by cases e; exact hne rfl).trans h.b, fun W'' hb => h.l W'' (b.trans hb), h.le⟩
theorem ToldI.set {A X : Nat} {vl : Value} {L : List Int} {s : Nat} {W : World} (h : ToldI A X vl L s W) : ToldI A X vl L (s + 1) (W.setCell ⟨X, 1, none⟩ (.int .i64 ((s : Int) + 1))) :=
 ⟨h.b.set 1 _, fun W'' hb => h.l W'' (((Below.refl A W).setCell (p := ⟨X, 1, none⟩) h.le _).trans hb), h.le⟩
def nx50 : Nx Unit := fun s => ((50, 0), s)
theorem fresh50 (C B : Nat) : Freshes nx50 (.func (.func 44) #[] #[]) (fun _ => True) (fun _ _ => True) C B :=
 fresh_fn {
  ent := enters_of Tryz.func44 (by kernel_rfl) rfl
  call := fun s W _ hB h => (lfresh50_any W).mono (by rintro e w' ⟨rfl, rfl⟩; exact ⟨rfl, trivial, Turns.refl _ _ _, fun _ _ _ => rfl⟩)
  keep := fun _ _ _ _ _ _ => trivial
  next := fun _ _ _ => trivial }
end Go.Proofs.YtknefoemgifbfaaGreat
