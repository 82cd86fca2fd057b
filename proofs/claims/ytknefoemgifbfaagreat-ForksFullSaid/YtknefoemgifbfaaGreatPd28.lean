import Derived.Test.YtknefoemgifbfaaGreatPd11
import Derived.Test.YtknefoemgifbfaaGreatPd27
set_option linter.unusedVariables false
set_option linter.unusedSimpArgs false
set_option linter.constructorNameAsVariable false
set_option maxRecDepth 100000
set_option maxHeartbeats 16000000
namespace Go.Proofs.YtknefoemgifbfaaGreat
open Go.RowKit
abbrev IntsR (v : Value) (l : List Int) (w : World) : Prop := RowIn 1 v l.length (l.map (Value.int .i64)) w
def singR (l : List Int) : List (Int × Int) := l.map fun b => (b, 1)
theorem singR_len (l : List Int) : (singR l).length = l.length := by unfold singR; rw [List.length_map]
theorem intsR_cells {v : Value} {l : List Int} {w : World} (h : IntsR v l w) : ∃ ad cap, v = .slice ad l.length cap ∧ l.length ≤ cap ∧ cap ≤ 9223372036854775807 ∧
 ∀ w', Below w.heap.size w w' → ∀ k, k < l.length → ∃ g o b, ad = some ⟨g, o, none⟩ ∧ l[k]? = some b ∧ w'.cell? ⟨g, o + k, none⟩ = some (.int .i64 b) := by
 obtain ⟨ad, cap, rfl, h1, h2, h3, -⟩ := h.shape;refine ⟨ad, cap, rfl, h1, h2, fun w' hb k hk => ?_⟩;obtain ⟨g, o, e, hg, hc⟩ := h3 (by rw [List.length_map]; omega);exact ⟨g, o, l[k], e, List.getElem?_eq_getElem hk, (hb.cell (p := ⟨g, o + k, none⟩) hg).trans (hc k _ (by rw [List.getElem?_map, List.getElem?_eq_getElem hk]; rfl))⟩
theorem one_run (w : World) (a b : Int) : ∀ (j : Nat) (u : Value), (cellsR [(a, b)])[j]? = some u → (w.alloc (.cells #[.int .i64 a, .int .i64 b] 136)).cell? ((⟨w.heap.size, 0, none⟩ : Addr).add j) = some u := fun j u h => new_cells w a b j u (by simpa [cellsR] using h)
theorem singles_any (l : List Int) (hl : l.length ≤ 1000000) (v : Value) (w : World) (hv : IntsR v l w) :
 Calls Tryz.prog 75 #[v] w fun e w' => ∃ v', e = .returned v' ∧ RunsAt w.heap.size v' (singR l) w' ∧ Below w.heap.size w w' := by
 obtain ⟨ad, cap, rfl, c1, c2, c3⟩ := intsR_cells hv;have H3 := Lib.hid c3;obtain ⟨i0, hi, hz0, hz1, hz2⟩ := info_parts info_run;obtain ⟨w2, hmk, hown0, hg0⟩ := run_make_own (P := Tryz.prog) (w := w) w.heap.size 126 136 i0 (.agg #[.int .i64 0, .int .i64 0]) 2 Tryz.underlying126 hi hz0 hz1 .i64 .i64 l.length (by rw [hz2]; omega) (by unfold maxLen; omega) (Nat.le_refl _)
 have hmk : (Instr.makeSlice 126 (.int .i64 0) (.int .i64 (l.length : Int))).run Tryz.prog w = .ok (.slice (some ⟨w.heap.size, 0, none⟩) 0 l.length) w2 := by rw [← hmk]
 have hb2 := Lib.hid ((Below.refl w.heap.size w).grown hg0 (Nat.le_refl _) (fun k hk => by cases hk));have hown0 : Hid (RunsAt w.heap.size (.slice (some ⟨w.heap.size, 0, none⟩) 0 l.length) [] w2) := Lib.hid hown0
 have HT : Hid (∀ k b, l[k]? = some b → singR (l.take (k + 1)) = singR (l.take k) ++ [(b, 1)]) := Lib.hid fun k b h => by
  have hk := (List.getElem?_eq_some_iff.1 h).1;unfold singR;rw [List.take_succ_eq_append_getElem hk, List.map_append, (List.getElem?_eq_some_iff.1 h).2]; rfl
 have HN : Hid (∀ k, k ≤ l.length → (singR (l.take k)).length = k) := Lib.hid fun k hk => by rw [singR_len, List.length_take]; omega
 have HF : Hid (singR (l.take l.length) = singR l) := Lib.hid (by rw [List.take_length]);clear hv c3 hi hz0 hz1 hz2 hg0
 go_enter Tryz.func75, Tryz.ntmps75
 go_wp2
 go_loopw [3, 5, 11] (fun vo v5 p wr => ∃ k : Nat, p = .int .i64 k ∧ k ≤ l.length ∧ Hid (RunsAt w.heap.size vo (singR (l.take k)) wr) ∧ Below w.heap.size w wr) (fun _ _ p _ => l.length - (intOf p).toNat)
 case atStart => exact ⟨0, rfl, Nat.zero_le _, hown0, hb2.out⟩
 case round =>
  clear hown0 hb2 hmk;obtain ⟨k, rfl, hk, HO, hb⟩ := hrel;by_cases hlt : k < l.length
  ·obtain ⟨g, o, b, rfl, hbk, hc⟩ := H3.out wr hb k hlt
   have HE := Lib.hid (HT.out k b hbk);have hln := HN.out k hk;have hs1 := hb.size;have HB := Lib.hid hb;clear H3 HT HN hbk hb;generalize singR (l.take k) = out at *
   go_wp2_with (at_builtin; refine wpList_app rfl _ _ rfl w.heap.size _ out rfl (HO.out.alloc _) ⟨wr.heap.size, 0, none⟩ 1 1 [(b, 1)] rfl rfl (one_run _ _ _) (by omega) (by rw [size_alloc]; omega) ?_)
   intro v' w4 h4 b4;have h4 := Lib.hid h4;have hb4 := (balloc HB.out _).trans b4;clear HO HB b4;go_wp2;exact ⟨⟨k + 1, by go_num, by omega, Lib.hid (by rw [HE.out]; exact h4.out), hb4⟩, by simp [intOf]; omega⟩
  ·obtain rfl : k = l.length := by omega
   have HO := Lib.hid (HO.out);have HE := Lib.hid (show RunsAt w.heap.size _ (singR l) wr from HF.out ▸ HO.out);clear HO;go_wp2;go_ret;exact ⟨_, rfl, HE.out, hb⟩
open Go.RowKit
def usableA (n : Int) : Bool := decide (1 ≤ n) && decide (n < 4096)
theorem usable_any (n : Int) (w : World) : Calls Tryz.prog 64 #[.int .i64 n] w fun e w' => e = .returned (.bool (usableA n)) ∧ w' = w := by
 unfold usableA;by_cases h1 : 1 ≤ n
 ·rw [decide_eq_true h1]
  have d1 : decide (n ≥ 1) = true := decide_eq_true h1
  go_enter Tryz.func64, Tryz.ntmps64
  go_wp2;go_ret;exact ⟨by simp, rfl⟩
 ·rw [decide_eq_false h1]
  have d1 : decide (n ≥ 1) = false := decide_eq_false h1
  go_enter Tryz.func64, Tryz.ntmps64
  go_wp2;go_ret;exact ⟨by simp, rfl⟩
theorem index_any (l : List Int) (hl : l.length ≤ 1000000) (b : Int) (v : Value) (w : World) (hv : IntsR v l w) :
 Calls Tryz.prog 93 #[v, .int .i64 b] w fun e w' => ∃ i : Int, e = .returned (.int .i64 i) ∧ (0 ≤ i ↔ b ∈ l) ∧ w' = w := by
 obtain ⟨ad, cap, rfl, c1, c2, c3⟩ := intsR_cells hv;have H3 := Lib.hid c3;clear hv c3
 go_enter Tryz.func93, Tryz.ntmps93
 go_wp2
 go_loopw [5, 8] (fun q5 p wr => wr = w ∧ ∃ k : Nat, p = .int .i64 (k : Int) ∧ k ≤ l.length ∧ Hid (b ∉ l.take k)) (fun _ p _ => l.length - (intOf p).toNat)
 case atStart => exact ⟨rfl, 0, rfl, Nat.zero_le _, Lib.hid (by simp)⟩
 case round =>
  obtain ⟨hw, k, rfl, hk, HN⟩ := hrel;have hw := hw.symm;subst hw;by_cases hlt : k < l.length
  ·obtain ⟨g, o, x, rfl, hx, hc⟩ := H3.out w (Below.refl _ _) k hlt
   by_cases e : b = x
   ·subst e
    have d1 : (b == b) = true := by simp
    have HM : Hid (b ∈ l) := Lib.hid (List.mem_of_getElem? hx);clear hx H3;go_wp2;go_ret;exact ⟨_, rfl, ⟨fun _ => HM.out, fun _ => by omega⟩, rfl⟩
   ·have d1 : (b == x) = false := by rw [beq_eq_false_iff_ne]; exact e
    have HM : Hid (b ∉ l.take (k + 1)) := Lib.hid (by
     have h1 := List.getElem?_eq_some_iff.1 hx;rw [List.take_succ_eq_append_getElem h1.1, List.mem_append, h1.2, List.mem_singleton]
     exact fun h => h.elim HN.out e)
    clear hx H3 e;go_wp2;exact ⟨⟨trivial, k + 1, by go_num, by omega, HM⟩, by simp [intOf]; omega⟩
  ·obtain rfl : k = l.length := by omega
   go_wp2;go_ret;refine ⟨_, rfl, ⟨fun h => absurd h (by decide), fun h => ?_⟩, rfl⟩;have := HN.out;rw [List.take_length] at this;exact absurd h this
theorem contains_any (l : List Int) (hl : l.length ≤ 1000000) (b : Int) (v : Value) (w : World) (hv : IntsR v l w) :
 Calls Tryz.prog 63 #[v, .int .i64 b] w fun e w' => e = .returned (.bool (decide (b ∈ l))) ∧ w' = w := by
 have C := Lib.hid (index_any l hl b v w hv)
 go_enter Tryz.func63, Tryz.ntmps63
 go_wp2_with fail
 refine C.out.mono ?_; rintro e w' ⟨i, rfl, hi, rfl⟩;have HI := Lib.hid hi;clear hi C;go_wp2;go_ret;exact ⟨ret_bool (decide_eq_decide.2 HI.out), rfl⟩
def idxF (p : Ent → Bool) (l : List Ent) : Int := match l.findIdx? p with | some i => (i : Int) | none => -1
theorem idxF_none {p : Ent → Bool} {l : List Ent} (h : ∀ x ∈ l, p x = false) : idxF p l = -1 := by
 unfold idxF; rw [List.findIdx?_eq_none_iff.2 h]
theorem idxF_some {p : Ent → Bool} {l : List Ent} {k : Nat} (hk : k < l.length) (h : p l[k] = true) (h0 : ∀ x ∈ l.take k, p x = false) : idxF p l = (k : Int) := by
 have : l.findIdx? p = some k := by
  rw [List.findIdx?_eq_some_iff_getElem];refine ⟨hk, h, fun j hj => ?_⟩;have := h0 l[j] (by rw [List.mem_take_iff_getElem]; exact ⟨j, by omega, rfl⟩)
  simp [this]
 unfold idxF; rw [this]
theorem idxF_ge (p : Ent → Bool) (l : List Ent) : 0 ≤ idxF p l ↔ l.any p = true := by
 unfold idxF
 cases h : l.findIdx? p with
 | none =>
   rw [List.findIdx?_eq_none_iff] at h
   have : l.any p = false := by rw [List.any_eq_false]; intro x hx; simp [h x hx]
   rw [this];constructor
   ·intro q; exact absurd q (by decide)
   ·intro q; cases q
 | some i =>
   rw [List.findIdx?_eq_some_iff_getElem] at h;obtain ⟨hi, h1, -⟩ := h;constructor
   ·intro _; rw [List.any_eq_true]; exact ⟨_, List.getElem_mem hi, h1⟩
   ·intro _; show (0 : Int) ≤ (i : Int); omega
theorem xindexf_any (p : Ent → Bool) (fn : Nat) (caps : Array Value) (l : List Ent) (hl : l.length ≤ 1000000) (v : Value) (w : World) (hv : EntsIn v l w)
 (hent : ∀ args w, (callFunc fn args).run Tryz.prog w = .ok (.enter fn args) w) (hcall : ∀ x W, Below w.heap.size w W → Calls Tryz.prog fn (#[entV x] ++ caps) W fun e W' => e = .returned (.bool (p x)) ∧ Below W.heap.size W W') :
 Calls Tryz.prog 76 #[v, .func (.func fn) #[] caps] w fun e w' => e = .returned (.int .i64 (idxF p l)) ∧ Below w.heap.size w w' := by
 obtain ⟨ad, cap, rfl, c1, c2, c3, -⟩ := entsIn_cells hv;have H3 := Lib.hid c3;have HC := Lib.hid hcall;clear hv c3 hcall
 go_enter Tryz.func76, Tryz.ntmps76
 go_wp2
 go_loopw [5, 8] (fun q5 p0 wr => ∃ k : Nat, p0 = .int .i64 (k : Int) ∧ k ≤ l.length ∧ Hid (∀ x ∈ l.take k, p x = false) ∧ Hid (Below w.heap.size w wr)) (fun _ p0 _ => l.length - (intOf p0).toNat)
 case atStart => exact ⟨0, rfl, Nat.zero_le _, Lib.hid (by simp), Lib.hid (Below.refl _ _)⟩
 case round =>
  obtain ⟨k, rfl, hk, HN, HB⟩ := hrel;by_cases hlt : k < l.length
  ·obtain ⟨g, o, rfl, -, hc⟩ := H3.out (by omega)
   obtain ⟨e1, e2, e3⟩ := hc wr HB.out k hlt;have HCX := Lib.hid (HC.out (eat l k) wr HB.out);have HY : Hid (p (eat l k) = true → idxF p l = (k : Int)) := Lib.hid fun h => idxF_some hlt (by rw [← eat_eq hlt]; exact h) HN.out
   have HZ : Hid (p (eat l k) = false → ∀ x ∈ l.take (k + 1), p x = false) := Lib.hid fun h x hx => by
    rw [List.take_succ_eq_append_getElem hlt, List.mem_append, List.mem_singleton] at hx;rcases hx with hx | rfl
    ·exact HN.out x hx
    ·rw [← eat_eq hlt]; exact h
   clear hc H3 HC;generalize eat l k = x at *;obtain ⟨b, hb⟩ : ∃ b, p x = b := ⟨_, rfl⟩;rw [hb] at HCX HY HZ;clear hb;obtain ⟨xa, xp, xz⟩ := x;dsimp only at e1 e2 e3;go_wp2_with fail
   refine HCX.out.mono ?_; rintro e w2 ⟨rfl, b2⟩;have HB2 := Lib.hid (bnext HB.out b2);clear HCX b2 e1 e2 e3 HB
   cases b with
   | true =>
     have HE := HY.out rfl;have HE := Lib.hid HE;clear HY HZ;go_wp2;go_ret;exact ⟨by rw [HE.out]; rfl, HB2.out⟩
   | false =>
     have HE := Lib.hid (HZ.out rfl);clear HY HZ;go_wp2;exact ⟨⟨k + 1, by go_num, by omega, HE, HB2⟩, by simp [intOf]; omega⟩
  ·obtain rfl : k = l.length := by omega
   have HE : Hid (idxF p l = -1) := Lib.hid (idxF_none (by have := HN.out; rwa [List.take_length] at this));go_wp2;go_ret;exact ⟨by rw [HE.out]; rfl, HB.out⟩
theorem xcontf_any (p : Ent → Bool) (fn : Nat) (caps : Array Value) (l : List Ent) (hl : l.length ≤ 1000000) (v : Value) (w : World) (hv : EntsIn v l w)
 (hent : ∀ args w, (callFunc fn args).run Tryz.prog w = .ok (.enter fn args) w) (hcall : ∀ x W, Below w.heap.size w W → Calls Tryz.prog fn (#[entV x] ++ caps) W fun e W' => e = .returned (.bool (p x)) ∧ Below W.heap.size W W') :
 Calls Tryz.prog 57 #[v, .func (.func fn) #[] caps] w fun e w' => e = .returned (.bool (l.any p)) ∧ Below w.heap.size w w' := by
 have C := Lib.hid (xindexf_any p fn caps l hl v w hv hent hcall);clear hv hent hcall
 go_enter Tryz.func57, Tryz.ntmps57
 go_wp2_with fail
 refine C.out.mono ?_; rintro e w' ⟨rfl, b2⟩;have HI := Lib.hid (idxF_ge p l);have HB := Lib.hid b2;clear C b2;generalize idxF p l = i at *;go_wp2;go_ret;refine ⟨ret_bool ?_, HB.out⟩
 cases h : l.any p with
 | true => exact decide_eq_true (HI.out.2 h)
 | false => exact decide_eq_false fun q => by rw [HI.out.1 q] at h; cases h
end Go.Proofs.YtknefoemgifbfaaGreat
