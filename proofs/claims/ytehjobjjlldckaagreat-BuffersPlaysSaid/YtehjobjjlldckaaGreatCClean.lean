/- The cache's clean, add. -/
import Derived.Test.YtehjobjjlldckaaGreatCUse
namespace Go.Proofs.YtehjobjjlldckaaGreat
set_option linter.unusedVariables false
open Go.RowKit

def cleanCode (S : St) (r : Rec) : Int := if r.dirty = true then wCode S r.b r.data.size else 0
def cleanSt (S : St) (r : Rec) : St := if r.dirty = true then wSt S r.b r.data else S
def cleanRec (S : St) (r : Rec) : Rec := if r.dirty = true then { r with dirty := wCode S r.b r.data.size != 0 } else r
def CleanRet (d lo hi g p : Nat) (S : St) (r : Rec) (w : World) (e : Ending) (w' : World) : Prop :=
  e = .returned (.int .i64 (cleanCode S r)) ∧ DevAt d lo hi (cleanSt S r) w' ∧ Blk g (recCells (cleanRec S r) p) 91 w' ∧ Turn (fun k => k = g ∨ (lo ≤ k ∧ k < hi)) w w'
set_option maxRecDepth 100000 in
set_option maxHeartbeats 4000000 in
theorem clean_raw {c d lo hi m most uses g p : Nat} {q : Value} {S : St} {r : Rec} (ha : S.acts ≤ 1000000) (w : World) (hc : Blk c (cellsC c d m most uses q) 68 w) (hd : DevAt d lo hi S w) (hg : Blk g (recCells r p) 91 w) (hz : ¬ (lo ≤ g ∧ g < hi)) :
    Calls Tryz.prog 69 #[cV c, ptrV g] w (CleanRet d lo hi g p S r w) := by
  by_cases hr : r.dirty = true
  · have e1 : cleanCode S r = wCode S r.b r.data.size := by unfold cleanCode; rw [if_pos hr]
    have e2 : cleanSt S r = wSt S r.b r.data := by unfold cleanSt; rw [if_pos hr]
    have e3 : cleanRec S r = { r with dirty := wCode S r.b r.data.size != 0 } := by unfold cleanRec; rw [if_pos hr]
    have HE : Hid (∀ e w', CleanRet d lo hi g p S r w e w' ↔ e = .returned (.int .i64 (wCode S r.b r.data.size)) ∧ DevAt d lo hi (wSt S r.b r.data) w' ∧ Blk g (recCells { r with dirty := wCode S r.b r.data.size != 0 } p) 91 w' ∧ Turn (fun k => k = g ∨ (lo ≤ k ∧ k < hi)) w w') := Lib.hid (fun e w' => by unfold CleanRet; rw [e1, e2, e3])
    have c3 : w.cell? ⟨c, 3, none⟩ = some (.func (.func 29) #[.pointer (some ⟨d, 0, none⟩)] #[]) := hc.cell 3
    obtain ⟨g0, g1, g2, _, _, _⟩ := rec_cells hg
    rw [hr] at g2
    have W := Lib.hid (write_any (r.b : Int) r.data ha w.drew (hd.kept1 (Below.refl _ _).drew))
    have HG := Lib.hid (hg.kept1 (Below.refl _ _).drew)
    clear e1 e2 e3 hc hd hg
    generalize wCode S r.b r.data.size = code at *
    generalize wSt S r.b r.data = S2 at *
    unfold ptrV
    go_enter Tryz.func69, Tryz.ntmps69
    go_wp2
    go_still_tail 12, (by kernel_rfl)
    change wpList _ _ _ _ _ w.drew
    have HT : Hid (Turn (fun k => k = g ∨ (lo ≤ k ∧ k < hi)) w w.drew) := Lib.hid (Turn.refl _ _).drew
    generalize w.drew = w1 at *
    clear c3 g0 g1 g2
    go_wp2_with fail
    refine W.out.mono ?_; rintro e w2 ⟨rfl, hd2, z2⟩
    have hg2 := HG.out.kept z2 (by omega)
    have g2 : w2.cell? ⟨g, 2, none⟩ = some (.bool r.dirty) := hg2.cell 2
    have f2 := hg2.frozen 2
    have HX : Hid (DevAt d lo hi S2 (w2.setCell ⟨g, 2, none⟩ (.bool (code != 0))) ∧ Blk g (recCells { r with dirty := code != 0 } p) 91 (w2.setCell ⟨g, 2, none⟩ (.bool (code != 0))) ∧ Turn (fun k => k = g ∨ (lo ≤ k ∧ k < hi)) w (w2.setCell ⟨g, 2, none⟩ (.bool (code != 0)))) := Lib.hid (by
      have t1 : Turn (fun k => k = g) w2 (w2.setCell ⟨g, 2, none⟩ (.bool (code != 0))) := (Turn.refl (fun k => k = g) w2).set (p := ⟨g, 2, none⟩) rfl _
      refine ⟨dev_turn hd2 t1 (fun k hk => by rw [hk]; exact hz), hg2.set 2 _, ?_⟩
      refine (HT.out.then (Turn.of_zone (M := fun k => lo ≤ k ∧ k < hi) z2 fun k h1 h2 => ⟨h1, h2⟩) fun k _ hk => .inr hk).then t1 fun k _ hk => .inl hk)
    clear W hd2 z2 hg2 HG HT hr
    go_wp2
    go_ret
    exact (HE.out _ _).2 ⟨rfl, HX.out⟩
  · have hr : r.dirty = false := by simpa using hr
    have HE : Hid (CleanRet d lo hi g p S r w (.returned (.int .i64 0)) w) := Lib.hid (by
      unfold CleanRet cleanCode cleanSt cleanRec
      rw [hr]
      exact ⟨rfl, hd, hg, Turn.refl _ _⟩)
    obtain ⟨_, _, g2, _, _, _⟩ := rec_cells hg
    rw [hr] at g2
    clear hc hd hg
    unfold ptrV
    go_enter Tryz.func69, Tryz.ntmps69
    go_wp2
    go_ret
    exact HE.out
end Go.Proofs.YtehjobjjlldckaaGreat
