/- The cache's Forget. -/
import Derived.Test.YtehjobjjlldckaaGreatCUnpin
namespace Go.Proofs.YtehjobjjlldckaaGreat
set_option linter.unusedVariables false
open Go.RowKit

def ForgetRet (c d lo hi : Nat) (M : Nat → Prop) (U : Nat) (C : CS) (b : Int) (w : World) (e : Ending) (w' : World) : Prop :=
  ∃ M', e = .returned (.tuple #[]) ∧ CacheAt c d lo hi M' U (forgetC C b) w' ∧ Went lo hi M M' w w'
set_option maxRecDepth 100000 in
set_option maxHeartbeats 8000000 in
theorem forget_any {c d lo hi U : Nat} {M : Nat → Prop} {C : CS} (b : Int) (hb : I64 b) (w : World) (h : CacheAt c d lo hi M U C w) :
    Calls Tryz.prog 36 #[cV c, .int .i64 b] w (ForgetRet c d lo hi M U C b w) := by
  obtain ⟨m, o, uses, A, V, G, h, hu, rfl⟩ := h
  have Fr := find_any b hb w h
  cases hg : adrOf V G b with
  | none =>
    rw [hg] at Fr
    have F : Hid (Calls Tryz.prog 55 #[cV c, .int .i64 b] w fun e w' => e = .returned (.pointer none) ∧ w = w') := Lib.hid Fr
    have HR : Hid (ForgetRet c d lo hi (MSet c m o G) U C b w (.returned (.tuple #[])) w) := Lib.hid (by
      have e : forgetC C b = C := by unfold forgetC; rw [dropB_none (atB_none (by rw [h.at, hg]; rfl))]
      exact ⟨_, rfl, by rw [e]; exact ⟨m, o, uses, A, V, G, h, hu, rfl⟩, Went.below (Below.refl _ _)⟩)
    clear h Fr
    go_enter Tryz.func36, Tryz.ntmps36
    go_wp2_with fail
    refine F.out.mono ?_; rintro e w' ⟨rfl, rfl⟩
    go_wp2
    go_end0
    exact HR.out
  | some g =>
    rw [hg] at Fr
    have F : Hid (Calls Tryz.prog 55 #[cV c, .int .i64 b] w fun e w' => e = .returned (.pointer (some ⟨g, 0, none⟩)) ∧ w = w') := Lib.hid Fr
    obtain ⟨hgG, hgb⟩ := adr_some hg
    obtain ⟨gq, cap, ho, hq⟩ := h.queue hgG
    obtain ⟨i, hin, hA⟩ := (h.mem g).2 hgG
    obtain ⟨k, hk⟩ : ∃ k, G.length = k + 1 := ⟨G.length - 1, by omega⟩
    have hbg := hq.item i hin
    rw [hA] at hbg
    have g5 : w.cell? ⟨g, 5, none⟩ = some (.int .i64 (i : Int)) := hbg.cell 5
    have hq1 : QAt c (cellsC c d m C.most uses) gq cap (k + 1) A V w.drew := by rw [← hk]; exact hq.kept1 (Below.refl _ _).drew
    have RM := remove_any (V := V) k i (by omega) w.drew hq1 (by rw [← hk]; exact h.heap)
    have hcm : ¬ (m = c ∨ m = gq ∨ m ∈ G) := by
      rintro (e | e | e)
      · exact h.parts.mc e
      · exact h.parts.om (by rw [ho, e])
      · exact h.parts.gm m e rfl
    have hown : ∀ j, (j = c ∨ j = gq ∨ j ∈ G) → MSet c m o G j := fun j hj => by
      rcases hj with e | e | e
      · exact .inl e
      · exact .inr (.inr (.inl (by rw [ho, e])))
      · exact .inr (.inr (.inr e))
    have R1 : Hid (Calls Tryz.prog 68 #[hV c, .int .i64 (i : Int)] w.drew fun e w1 => e = .returned (.iface 80 (.pointer (some ⟨g, 0, none⟩))) ∧ MapAt m G.length (adrOf V G) w1 ∧ w1.cell? ⟨c, 5, none⟩ = some (.map (some m)) ∧
        ∀ w2, MapAt m k (updO (adrOf V G) b none) w2 → Turn (fun j => j = m) w1 w2 → ForgetRet c d lo hi (MSet c m o G) U C b w (.returned (.tuple #[])) w2) := Lib.hid (by
      refine RM.mono ?_
      rintro e w1 ⟨B, rfl, p1, p2, p3, p4, p5, p6⟩
      rw [hA] at p5 ⊢
      have t1 : Turn (fun j => j = c ∨ j = gq ∨ j ∈ G) w w1 := (Turn.refl (fun j => j = c ∨ j = gq ∨ j ∈ G) w).drew.then p6 fun j _ hj => by
        rcases hj with e | e | ⟨l, hl, e⟩
        · exact .inl e
        · exact .inr (.inl e)
        · exact .inr (.inr ((h.mem j).1 ⟨l, by omega, e.symm⟩))
      refine ⟨rfl, h.mp.turn t1 hcm, p1.blk.cell 5, fun w2 hm t2 => ?_⟩
      have hd1 := dev_turn h.dev t1 fun j hj => mset_zone h (hown j hj)
      have hcg := h.gone hk hin ho hq p1 p2 p3 p4 hd1 rfl (by rw [hA, hgb]; exact hm) t2
      rw [hA, hgb, ← ho] at hcg
      refine ⟨MSet c m o (lessG V G b), rfl, ⟨m, o, uses, B, V, lessG V G b, hcg, hu, rfl⟩, ⟨(t1.mono fun j _ hj => .inl (hown j hj)).then t2 fun j _ hj => .inl (.inr (.inl hj)), fun j hj => .inl ?_⟩⟩
      exact mset_sub (fun x hx => (less_mem.1 hx).1) hj)
    have HKK : Hid (k = if (adrOf V G b).isSome then G.length - 1 else G.length) := Lib.hid (by rw [hg]; show k = G.length - 1; omega)
    clear h Fr hq hbg hq1 RM hA hcm hown hk hin ho
    go_enter Tryz.func36, Tryz.ntmps36
    go_wp2_with fail
    refine F.out.mono ?_; rintro e w' ⟨rfl, rfl⟩
    clear F
    go_wp2
    go_still_tail 8, (by kernel_rfl)
    change wpList _ _ _ _ _ w.drew
    generalize w.drew = w3 at *
    clear g5
    go_wp2_with fail
    refine R1.out.mono ?_; rintro e w1 ⟨rfl, hm1, c5, hf⟩
    have HF := Lib.hid hf
    clear hf R1
    go_wp2_with (at_delete; refine wpList_mapDel rfl _ _ rfl hm1 b hb rfl rfl k HKK ?_)
    intro w4 hm4 t4
    have HR := Lib.hid (HF.out w4 hm4 t4)
    clear HF hm4 t4 hm1
    go_wp2
    go_end0
    exact HR.out
end Go.Proofs.YtehjobjjlldckaaGreat
