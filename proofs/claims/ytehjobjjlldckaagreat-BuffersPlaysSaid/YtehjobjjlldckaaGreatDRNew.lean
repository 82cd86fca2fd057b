/- The document's New, Open. -/
import Derived.Test.YtehjobjjlldckaaGreatDRef
import Derived.Test.YtehjobjjlldckaaGreatDNew
import Derived.Test.YtehjobjjlldckaaGreatPush
namespace Go.Proofs.YtehjobjjlldckaaGreat
set_option linter.unusedVariables false
open Go.RowKit

theorem str_info : (Tryz.prog.info? 9).map (fun i => (i.zero, i.size, i.bytes)) = some (some (.string ⟨#[]⟩), 1, 16) := by kernel_rfl
/-- two rows lie apart -/
def Apart (v w : Value) : Prop := ∀ k, v.ownBlock = some k → w.ownBlock = some k → False
theorem Apart.symm {v w : Value} (h : Apart v w) : Apart w v := fun k a b => h k b a
theorem Apart.push {v v' u : Value} {w : World} {base : Nat} {e : TypeId} {n : Nat} {xs : List Value} (h : Apart v u) (hs : Stays v v' w.heap.size) (hu : w.ownsRow base e 1 u n xs) : Apart v' u := fun k a b => by
  rcases hs with hs | hs
  · exact h k (hs ▸ a) b
  · have := hs k a
    have := (hu.lt k b).2
    omega
/-- three rows of the call's own, and the struct that holds them -/
structure Mk (r : Nat) (w0 : World) (vn vw vp : Value) (a b c : Nat) (w : World) : Prop where
  blk : Blk r #[vn, vw, vp, .int .i64 (-1), .int .i64 0] 53 w
  now : w.ownsRow (r + 1) 9 1 vn a (List.replicate a (.string zeros))
  was : w.ownsRow (r + 1) 9 1 vw b (List.replicate b (.string zeros))
  pend : w.ownsRow (r + 1) 4 1 vp c (List.replicate c (.bool false))
  a1 : Apart vn vw
  a2 : Apart vn vp
  a3 : Apart vw vp
  below : Below w0.heap.size w0 w
  base : w0.heap.size ≤ r
theorem Mk.size {r a b c : Nat} {w0 w : World} {vn vw vp : Value} (h : Mk r w0 vn vw vp a b c w) : r + 1 ≤ w.heap.size := h.blk.lt
theorem Mk.alloc {r a b c : Nat} {w0 w : World} {vn vw vp : Value} (h : Mk r w0 vn vw vp a b c w) (o : Obj) : Mk r w0 vn vw vp a b c (w.alloc o) :=
  ⟨h.blk.kept1 (balloc1 w o), h.now.alloc o, h.was.alloc o, h.pend.alloc o, h.a1, h.a2, h.a3, balloc h.below o, h.base⟩
theorem row_other {w w' : World} {base r n : Nat} {e : TypeId} {v u v' : Value} {xs : List Value} (h : w.ownsRow base e 1 u n xs) (hg : w.grownBy w' v.ownBlock) (ha : Apart v u) (hb : r < base) : (w'.setCell ⟨r, 0, none⟩ v').ownsRow base e 1 u n xs := by
  refine ownsRow_setCell_below (h.kept hg ?_) hb _
  cases hu : u.ownBlock with
  | none => exact .inl rfl
  | some k => exact .inr fun e => ha k e.symm hu
theorem row_other' {w w' : World} {base r j n : Nat} {e : TypeId} {v u v' : Value} {xs : List Value} (h : w.ownsRow base e 1 u n xs) (hg : w.grownBy w' v.ownBlock) (ha : Apart v u) (hb : r < base) : (w'.setCell ⟨r, j, none⟩ v').ownsRow base e 1 u n xs := by
  refine ownsRow_setCell_below (h.kept hg ?_) hb _
  cases hu : u.ownBlock with
  | none => exact .inl rfl
  | some k => exact .inr fun e => ha k e.symm hu
theorem blk_grown {w w' : World} {base r n : Nat} {e T : TypeId} {v : Value} {xs : List Value} {cs : Array Value} (h : Blk r cs T w) (hv : w.ownsRow base e 1 v n xs) (hg : w.grownBy w' v.ownBlock) (hb : r < base) : Blk r cs T w' :=
  (hg.block r h.lt fun e => by have := (hv.lt r e.symm).1; omega).trans h
theorem rep_snoc (n : Nat) (x : Value) : List.replicate n x ++ [x] = List.replicate (n + 1) x := by rw [List.replicate_succ']
theorem Mk.pushNow {r a b c : Nat} {w0 w w' : World} {vn vw vp v' : Value} (h : Mk r w0 vn vw vp a b c w) (h1 : w'.ownsRow (r + 1) 9 1 v' (a + 1) (List.replicate a (.string zeros) ++ [.string zeros])) (hg : w.grownBy w' vn.ownBlock) (hs : Stays vn v' w.heap.size) :
    Mk r w0 v' vw vp (a + 1) b c (w'.setCell ⟨r, 0, none⟩ v') :=
  ⟨(blk_grown h.blk h.now hg (Nat.lt_succ_self r)).set 0 _, by rw [← rep_snoc]; exact ownsRow_setCell_below h1 (Nat.lt_succ_self r) _, row_other' h.was hg h.a1 (Nat.lt_succ_self r), row_other' h.pend hg h.a2 (Nat.lt_succ_self r), h.a1.push hs h.was, h.a2.push hs h.pend, h.a3,
    (h.below.trans ((below_of_row h.now hg h.size).mono (Nat.le_succ_of_le h.base))).setCell h.base _, h.base⟩
theorem Mk.pushWas {r a b c : Nat} {w0 w w' : World} {vn vw vp v' : Value} (h : Mk r w0 vn vw vp a b c w) (h1 : w'.ownsRow (r + 1) 9 1 v' (b + 1) (List.replicate b (.string zeros) ++ [.string zeros])) (hg : w.grownBy w' vw.ownBlock) (hs : Stays vw v' w.heap.size) :
    Mk r w0 vn v' vp a (b + 1) c (w'.setCell ⟨r, 1, none⟩ v') :=
  ⟨(blk_grown h.blk h.was hg (Nat.lt_succ_self r)).set 1 _, row_other' h.now hg h.a1.symm (Nat.lt_succ_self r), by rw [← rep_snoc]; exact ownsRow_setCell_below h1 (Nat.lt_succ_self r) _, row_other' h.pend hg h.a3 (Nat.lt_succ_self r), (h.a1.symm.push hs h.now).symm, h.a2, h.a3.push hs h.pend,
    (h.below.trans ((below_of_row h.was hg h.size).mono (Nat.le_succ_of_le h.base))).setCell h.base _, h.base⟩
theorem Mk.pushPend {r a b c : Nat} {w0 w w' : World} {vn vw vp v' : Value} (h : Mk r w0 vn vw vp a b c w) (h1 : w'.ownsRow (r + 1) 4 1 v' (c + 1) (List.replicate c (.bool false) ++ [.bool false])) (hg : w.grownBy w' vp.ownBlock) (hs : Stays vp v' w.heap.size) :
    Mk r w0 vn vw v' a b (c + 1) (w'.setCell ⟨r, 2, none⟩ v') :=
  ⟨(blk_grown h.blk h.pend hg (Nat.lt_succ_self r)).set 2 _, row_other' h.now hg h.a2.symm (Nat.lt_succ_self r), row_other' h.was hg h.a3.symm (Nat.lt_succ_self r), by rw [← rep_snoc]; exact ownsRow_setCell_below h1 (Nat.lt_succ_self r) _, h.a1, (h.a2.symm.push hs h.now).symm, (h.a3.symm.push hs h.was).symm,
    (h.below.trans ((below_of_row h.pend hg h.size).mono (Nat.le_succ_of_le h.base))).setCell h.base _, h.base⟩
theorem Mk.done {r n : Nat} {w0 w : World} {vn vw vp : Value} (h : Mk r w0 vn vw vp n n n w) (h1 : 1 ≤ n) (h2 : n ≤ 4096) : RefAt r w0.heap.size w.heap.size (freshSt n zeroB) w := by
  obtain ⟨_, cn, rfl, n1, n2, n3⟩ := shape_of h.now
  obtain ⟨_, ck, rfl, w1, w2, w3⟩ := shape_of h.was
  obtain ⟨_, cp, rfl, p1, p2, p3⟩ := shape_of h.pend
  obtain ⟨gn, rfl, n4, n5⟩ := n3 (by omega)
  obtain ⟨gk, rfl, w4, w5⟩ := w3 (by omega)
  obtain ⟨gp, rfl, p4, p5⟩ := p3 (by omega)
  have hb := h.base
  have a1 : gn ≠ gk := fun e => h.a1 gn rfl (by rw [e]; rfl)
  have a2 : gn ≠ gp := fun e => h.a2 gn rfl (by rw [e]; rfl)
  have a3 : gk ≠ gp := fun e => h.a3 gk rfl (by rw [e]; rfl)
  exact ⟨gn, gk, gp, cn, ck, cp, fresh_ok h1 h2 (fun _ _ => zeros_size), h.blk, CellsAt.of_row h.now fun j hj => by simp [freshSt, strF, zeroB], CellsAt.of_row h.was fun j hj => by simp [freshSt, strF, zeroB], CellsAt.of_row h.pend fun j hj => by simp [freshSt, boolF],
    ⟨n1, n2⟩, ⟨w1, w2⟩, ⟨p1, p2⟩, ⟨hb, h.size⟩, by omega, by omega, by omega, Nat.le_refl _, by omega, by omega, by omega, a1, a2, a3⟩
end Go.Proofs.YtehjobjjlldckaaGreat
