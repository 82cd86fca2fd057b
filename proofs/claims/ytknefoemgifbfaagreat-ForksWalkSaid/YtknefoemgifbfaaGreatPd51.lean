import Derived.Test.YtknefoemgifbfaaGreatPd49
import Derived.Test.YtknefoemgifbfaaGreatPd01
set_option linter.unusedVariables false
set_option linter.unusedSimpArgs false
set_option linter.constructorNameAsVariable false
namespace Go.Proofs.YtknefoemgifbfaaGreat
open Go.RowKit
abbrev RpR : Type := Except Int (Shp × Shp)
def dpR : RpR → Int | .ok x => ((x.2.length - 1 : Nat) : Int) | .error _ => 0
def rtR : RpR → List Ent | .ok x => rootA x.2 | .error _ => []
def chR : RpR → List Ch | .ok x => chgA (blocksA x.1) (blocksA x.2) | .error _ => []
def frR : RpR → List Int | .ok x => freeA (blocksA x.1) (blocksA x.2) | .error _ => []
def ecR : RpR → Int | .ok _ => 0 | .error c => c
def lenR (a : RpR) : Prop := (rtR a).length ≤ 1000000 ∧ (chR a).length ≤ 1000000 ∧ (frR a).length ≤ 1000000
theorem Freshes.all {σ : Type} {nx : Nx σ} {fv : Value} {go : σ → Prop} {I : σ → World → Prop} {C B : Nat} (h : Freshes nx fv go I C B) (w0 : World) (hB : B ≤ w0.heap.size) :
    Freshes nx fv go (fun s W => I s W ∧ ∀ k, B ≤ k → k < w0.heap.size → W.heap[k]? = w0.heap[k]?) C w0.heap.size := by
  refine ⟨h.val, fun T hT s v w hgo hB2 hI hv => ?_, fun s W W' hB2 hI hb => ⟨h.keep s W W' (by omega) hI.1 (hb.mono hB), fun k h1 h2 => (hb.block k h2).trans (hI.2 k h1 h2)⟩, h.next⟩
  refine (h.ask T hT s v w hgo (by omega) hI.1 (row_down hB hv)).mono ?_
  rintro e w' ⟨rfl, k1, k2, k3⟩
  exact ⟨rfl, ⟨k1, fun k j1 j2 => (k3 k j1 (by omega)).trans (hI.2 k j1 j2)⟩, k2, fun k j1 j2 => k3 k (by omega) j2⟩
def greatB (d : List Ch) (r : List Ent) : Bool := decide (300 < d.length) || decide (100 < r.length) || d.any fun c => decide (1000 < c.2.size)
theorem great_no {d : List Ch} {r : List Ent} (h : greatB d r = false) : d.length ≤ 300 ∧ r.length ≤ 100 ∧ ∀ c ∈ d, c.2.size ≤ 1000 := by
  unfold greatB at h
  simp only [Bool.or_eq_false_iff, decide_eq_false_iff_not, List.any_eq_false, decide_eq_true_eq] at h
  exact ⟨by omega, by omega, fun c hc => by have := h.2 c hc; omega⟩
set_option maxRecDepth 100000 in
set_option maxHeartbeats 4000000 in
theorem lgreat_any (d : List Ch) (hd : ∀ c ∈ d, c.2.size ≤ maxLen) (bad : Int) (r : List Ent) (v u : Value) (w : World) (hv : ChgsIn v d w) (hu : EntsIn u r w) :
    Calls Tryz.prog 17 #[.agg #[v, .int .i64 bad], u] w fun e w' => e = .returned (.bool (greatB d r)) ∧ Below w.heap.size w w' := by
  have hms : maxLen = 9223372036854775807 := rfl
  obtain ⟨ad, cap, rfl, hcap1, hcap2, hcell⟩ := hv.open
  obtain ⟨ar, cr, rfl, -⟩ := entsIn_cells hu
  have hb0 := balloc1 w (.cells #[.slice ad d.length cap, .int .i64 bad] 38)
  have hk0 := Blk.new #[.slice ad d.length cap, .int .i64 bad] 38 w
  have HC := Lib.hid hcell
  have HDZ := Lib.hid hd
  obtain ⟨w1, hw1⟩ : ∃ W, w.alloc (.cells #[.slice ad d.length cap, .int .i64 bad] 38) = W := ⟨_, rfl⟩
  rw [hw1] at hb0 hk0
  have c0 := hk0.cell 0
  simp only [List.getElem?_toArray, List.getElem?_cons_zero] at c0
  have HB0 := Lib.hid hb0
  have HK0 := Lib.hid hk0
  have HW1 := Lib.hid hw1
  clear hv hu hcell hd hms hb0 hk0 hw1
  by_cases h1 : 300 < d.length
  · have d1 : decide ((300 : Int) < (d.length : Int)) = true := decide_eq_true (by omega)
    have HR : Hid (greatB d r = true) := Lib.hid (by unfold greatB; rw [decide_eq_true h1]; rfl)
    rw [HR.out]
    clear h1
    go_enter Tryz.func17, Tryz.ntmps17
    go_upto_region 1 with fail
    rw [HW1.out]
    go_wp2
    go_ret
    exact ⟨rfl, HB0.out⟩
  have d1 : decide ((300 : Int) < (d.length : Int)) = false := decide_eq_false (by omega)
  by_cases h2 : 100 < r.length
  · have d2 : decide ((100 : Int) < (r.length : Int)) = true := decide_eq_true (by omega)
    have HR : Hid (greatB d r = true) := Lib.hid (by unfold greatB; rw [decide_eq_true h2]; simp)
    rw [HR.out]
    clear h1 h2
    go_enter Tryz.func17, Tryz.ntmps17
    go_upto_region 1 with fail
    rw [HW1.out]
    go_wp2
    go_ret
    exact ⟨rfl, HB0.out⟩
  have d2 : decide ((100 : Int) < (r.length : Int)) = false := decide_eq_false (by omega)
  have HNO : Hid ((∀ j (hj : j < d.length), ¬ 1000 < (d[j]).2.size) → greatB d r = false) := Lib.hid fun h => by
    unfold greatB
    rw [decide_eq_false h1, decide_eq_false h2]
    simp only [Bool.false_or, List.any_eq_false, decide_eq_true_eq]
    intro c hc
    obtain ⟨j, hj, rfl⟩ := List.mem_iff_getElem.1 hc
    exact h j hj
  have HYES : Hid (∀ j (hj : j < d.length), 1000 < (d[j]).2.size → greatB d r = true) := Lib.hid fun j hj h => by
    unfold greatB
    have : d.any (fun c => decide (1000 < c.2.size)) = true := List.any_eq_true.2 ⟨d[j], List.getElem_mem hj, decide_eq_true h⟩
    rw [this]; simp
  clear h1 h2
  go_enter Tryz.func17, Tryz.ntmps17
  go_upto_region 1 with fail
  rw [HW1.out]
  clear HW1 c0
  have c0 := HK0.out.cell 0
  simp only [List.getElem?_toArray, List.getElem?_cons_zero] at c0
  go_wp2
  go_loopw [5] (fun q wr => ∃ k : Nat, q = .int .i64 (k : Int) ∧ k ≤ d.length ∧ Hid (∀ j (hj : j < d.length), j < k → ¬ 1000 < (d[j]).2.size) ∧ wr = w1) (fun q _ => d.length - (intOf q).toNat)
  case atStart => exact ⟨0, rfl, Nat.zero_le _, Lib.hid (fun j _ h => by omega), rfl⟩
  case round =>
    obtain ⟨k, rfl, hk, HJ, rfl⟩ := hrel
    by_cases hlt : k < d.length
    · obtain ⟨g, o, rfl, hg, hcc⟩ := HC.out (by omega)
      obtain ⟨-, e2⟩ := hcc k hlt
      have e3 := (HB0.out.cell (p := ⟨g, o + k * 2 + 1, none⟩) hg).trans e2
      have hz := HDZ.out d[k] (List.getElem_mem hlt)
      have hms : maxLen = 9223372036854775807 := rfl
      have HY := Lib.hid (HYES.out k hlt)
      have HJK : Hid (¬ 1000 < (d[k]).2.size → ∀ j (hj : j < d.length), j < k + 1 → ¬ 1000 < (d[j]).2.size) := Lib.hid fun h j hj hjk => by
        by_cases e : j = k
        · subst e; exact h
        · exact HJ.out j hj (by omega)
      generalize d[k].2 = s at *
      clear hcc e2
      by_cases hs : 1000 < s.size
      · have d3 : decide ((1000 : Int) < (s.size : Int)) = true := decide_eq_true (by omega)
        have HR := Lib.hid (HY.out hs)
        clear hs
        go_wp2
        go_ret
        exact ⟨ret_bool HR.out.symm, HB0.out⟩
      · have d3 : decide ((1000 : Int) < (s.size : Int)) = false := decide_eq_false (by omega)
        have HJ2 := Lib.hid (HJK.out hs)
        clear hs
        go_wp2
        exact ⟨⟨k + 1, by go_num, by omega, HJ2, trivial⟩, by simp [intOf]; omega⟩
    · obtain rfl : k = d.length := by omega
      have HR := Lib.hid (HNO.out fun j hj => HJ.out j hj hj)
      go_wp2
      go_ret
      exact ⟨ret_bool HR.out.symm, HB0.out⟩
end Go.Proofs.YtknefoemgifbfaaGreat
namespace Go.Proofs.YtknefoemgifbfaaGreat
open Go.RowKit
theorem row_of_own {B z n : Nat} {e : TypeId} {v : Value} {xs : List Value} {w : World} (h : w.ownsRow B e z v n xs) : RowIn z v n xs w := by
  obtain ⟨ad, cap, rfl, h1, h2, h3⟩ := shape_of h
  rcases h.2 with ⟨e1, e2⟩ | ⟨g, cap', cur, e1, hb, hg, hr⟩
  · cases e1
    have : xs = [] := List.eq_nil_of_length_eq_zero (by have := h.1; rw [this, e2, Nat.zero_mul])
    subst this
    exact RowIn.nil z w
  · cases e1
    refine ⟨h.1, some ⟨g, 0, none⟩, cap, rfl, h1, h2, fun hp => ⟨g, 0, rfl, lt_of_block hg, fun k u hk => ?_⟩, fun e => by cases e⟩
    have hl := (List.getElem?_eq_some_iff.1 hk).1
    rw [Nat.zero_add, h.cellAt k (by have := h.1; omega)]; exact hk
theorem blk_grown {g : Nat} {cs : Array Value} {T : TypeId} {w w' : World} {row : Option Nat} (h : Blk g cs T w) (hg : w.grownBy w' row) (hne : some g ≠ row) : Blk g cs T w' := (hg.block g h.lt hne).trans h
theorem ty_ne {B z n g : Nat} {e t : TypeId} {v : Value} {xs : List Value} {w : World} (h : w.ownsRow B e z v n xs) (hg : TyAt g t w) (hne : t ≠ e) : some g ≠ v.ownBlock := fun q => hne (ty_one hg (own_ty h q.symm).1)
theorem rows_ne {B B' z z' n n' : Nat} {e e' : TypeId} {v v' : Value} {xs xs' : List Value} {w : World} (h : w.ownsRow B e z v n xs) (h' : w.ownsRow B' e' z' v' n' xs') (hne : e ≠ e') : ∀ q, v.ownBlock = some q → some q ≠ v'.ownBlock := fun q hq k => hne (ty_one (own_ty h hq).1 (own_ty h' k.symm).1)
theorem rows_later {B B' z z' n n' : Nat} {e e' : TypeId} {v v' : Value} {xs xs' : List Value} {w w' : World} (h : w'.ownsRow B e z v n xs) (h' : w.ownsRow B' e' z' v' n' xs') (hB : w.heap.size ≤ B) : ∀ q, v.ownBlock = some q → some q ≠ v'.ownBlock := fun q hq k => by
  have h1 := (own_ty h hq).2.2
  have h2 := (own_ty h' k.symm).2.1
  omega
theorem grown_below {B : Nat} {w w' : World} {row : Option Nat} (hg : w.grownBy w' row) (hB : B ≤ w.heap.size) (hr : ∀ q, row = some q → B ≤ q) : Below B w w' :=
  ⟨hg.os, hg.tape, hg.output, hg.size, fun k hk => hg.block k (by omega) fun e => by have := hr k e.symm; omega⟩
end Go.Proofs.YtknefoemgifbfaaGreat
