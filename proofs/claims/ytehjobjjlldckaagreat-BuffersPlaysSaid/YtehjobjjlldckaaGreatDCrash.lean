/- Pending, Crash, Kept. -/
import Derived.Test.YtehjobjjlldckaaGreatNats
namespace Go.Proofs.YtehjobjjlldckaaGreat
set_option linter.unusedVariables false
open Go.RowKit

set_option maxHeartbeats 1000000 in
theorem pending_any {d lo hi : Nat} {S : St} (w : World) (h : DevAt d lo hi S w) :
    Calls Tryz.prog 17 #[.pointer (some ⟨d, 0, none⟩)] w fun e w' => ∃ v, e = .returned v ∧ NatsAt w.heap.size v (pends S) w' ∧ Below w.heap.size w w' := by
  obtain ⟨gn, gk, gp, cn, ck, l, h⟩ := h
  obtain ⟨c0, _, _, c3, _, _⟩ := h.cells
  have M := Lib.hid (missing_no d w c0)
  have hn := h.ok.hi
  have HP := Lib.hid h.pend
  have hgp : gp < w.heap.size := h.pend.1
  unfold pends
  clear h
  generalize S.n = n at *
  generalize S.pend = p at *
  go_enter Tryz.func17, Tryz.ntmps17
  go_wp2_with fail
  refine M.out.mono ?_; rintro e w' ⟨rfl, rfl⟩
  clear M
  go_wp2
  go_loopw [3, 13] (fun v q wr => ∃ k : Nat, q = .int .i64 k ∧ k ≤ n ∧ NatsAt w.heap.size v (pendL p k) wr ∧ Below w.heap.size w wr) (fun _ q _ => n - (intOf q).toNat)
  case atStart => exact ⟨0, rfl, Nat.zero_le _, World.ownsRow_nil _ _ _ _, Below.refl _ _⟩
  case round =>
    obtain ⟨k, rfl, hk, hown, hb⟩ := hrel
    by_cases hlt : k < n
    · have q1 : wr.cell? ⟨gp, k, none⟩ = some (.bool (p k)) := (hb.cell (p := ⟨gp, k, none⟩) hgp).trans (HP.out.2 k hlt).1
      have hlen := pendL_len p k
      cases hp : p k with
      | true =>
        rw [hp] at q1
        have HY := Lib.hid (pendL_yes hp)
        clear hp c0 c3
        have hs := hb.size
        go_wp2_with (at_builtin; refine wpList_app1 rfl _ _ rfl w.heap.size _ _ k rfl (hown.alloc _) wr rfl rfl (by omega) (by rw [size_alloc]; omega) ?_)
        intro v' w2 h2 b2
        have hb3 := (hb.alloc hs (.cells #[.int .i64 (k : Int)] 3)).trans b2
        rw [← HY.out] at h2
        clear hown hb b2 q1
        go_wp2
        exact ⟨⟨k + 1, by go_num, by omega, h2, hb3⟩, by simp [intOf]; omega⟩
      | false =>
        rw [hp] at q1
        rw [← pendL_no hp] at hown
        clear hp c0 c3
        go_wp2
        exact ⟨⟨k + 1, by go_num, by omega, hown, hb⟩, by simp [intOf]; omega⟩
    · obtain rfl : k = n := by omega
      go_wp2
      go_ret
      exact ⟨_, rfl, hown, hb⟩
end Go.Proofs.YtehjobjjlldckaaGreat
