/- What may have turned: the blocks of a set, of those that were there. For whatever program. -/
import Derived.Test.YtehjobjjlldckaaGreatBase
namespace Go.Proofs.YtehjobjjlldckaaGreat
set_option linter.unusedVariables false
open Go.RowKit

structure Turn (M : Nat → Prop) (w w' : World) : Prop where
  os : w'.os = w.os
  tape : w'.tape = w.tape
  output : w'.output = w.output
  size : w.heap.size ≤ w'.heap.size
  block : ∀ k, k < w.heap.size → ¬ M k → w'.heap[k]? = w.heap[k]?
section
variable {M N : Nat → Prop} {w a b : World}
theorem Turn.refl (M : Nat → Prop) (w : World) : Turn M w w := ⟨rfl, rfl, rfl, Nat.le_refl _, fun _ _ _ => rfl⟩
theorem Turn.of_below (h : Below w.heap.size w a) (M : Nat → Prop) : Turn M w a := ⟨h.os, h.tape, h.output, h.size, fun k hk _ => h.block k hk⟩
theorem Turn.of_zone {lo hi : Nat} (h : Zone lo hi w a) (hM : ∀ k, lo ≤ k → k < hi → M k) : Turn M w a :=
  ⟨h.os, h.tape, h.output, h.size, fun k hk hn => h.block k hk (by
    rcases Nat.lt_or_ge k lo with h1 | h1
    · exact .inl h1
    · rcases Nat.lt_or_ge k hi with h2 | h2
      · exact absurd (hM k h1 h2) hn
      · exact .inr h2)⟩
theorem Turn.mono (h : Turn M w a) (hM : ∀ k, k < w.heap.size → M k → N k) : Turn N w a := ⟨h.os, h.tape, h.output, h.size, fun k hk hn => h.block k hk fun hm => hn (hM k hk hm)⟩
theorem Turn.trans (h : Turn M w a) (k : Turn M a b) : Turn M w b :=
  ⟨k.os.trans h.os, k.tape.trans h.tape, k.output.trans h.output, Nat.le_trans h.size k.size, fun i hi hn => (k.block i (Nat.lt_of_lt_of_le hi h.size) hn).trans (h.block i hi hn)⟩
/-- what turns later may be new -/
theorem Turn.then (h : Turn M w a) (k : Turn N a b) (hN : ∀ i, i < w.heap.size → N i → M i) : Turn M w b :=
  ⟨k.os.trans h.os, k.tape.trans h.tape, k.output.trans h.output, Nat.le_trans h.size k.size, fun i hi hn => (k.block i (Nat.lt_of_lt_of_le hi h.size) fun hm => hn (hN i hi hm)).trans (h.block i hi hn)⟩
theorem Turn.below (h : Turn M w a) {B : Nat} (hB : B ≤ w.heap.size) (hM : ∀ k, k < B → ¬ M k) : Below B w a := ⟨h.os, h.tape, h.output, h.size, fun k hk => h.block k (by omega) (hM k hk)⟩
theorem Turn.alloc (h : Turn M w a) (o : Obj) : Turn M w (a.alloc o) := h.trans (Turn.of_below (balloc1 a o) M)
theorem Turn.next (h : Turn M w a) (k : Below a.heap.size a b) : Turn M w b := h.trans (Turn.of_below k M)
theorem Turn.drew (h : Turn M w a) : Turn M w a.drew := ⟨h.os, h.tape, h.output, h.size, h.block⟩
theorem Turn.set (h : Turn M w a) {p : Addr} (hp : M p.block) (u : Value) : Turn M w (a.setCell p u) :=
  h.trans ⟨rfl, rfl, rfl, by simp [World.setCell], fun k hk hn => Below.heap_setCell a p u k fun e => hn (e ▸ hp)⟩
theorem Blk.turn {g : Nat} {cs : Array Value} {t : TypeId} (h : Blk g cs t w) (k : Turn M w a) (hg : ¬ M g) : Blk g cs t a := (k.block g h.lt hg).trans h
theorem CellsAt.turn {g n : Nat} {F : Nat → Value} (h : CellsAt g n F w) (k : Turn M w a) (hg : ¬ M g) : CellsAt g n F a := h.eq_block k.size (k.block g h.1 hg)
theorem size_set (w : World) (p : Addr) (u : Value) : (w.setCell p u).heap.size = w.heap.size := by simp [World.setCell]
end
end Go.Proofs.YtehjobjjlldckaaGreat
