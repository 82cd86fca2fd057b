import Derived.Test.YtanghmogeiiooaaGreatDoorPa47
import Derived.Test.YtanghmogeiiooaaGreatDoorPa48
import Derived.Test.YtanghmogeiiooaaGreatDoorPa22
import Derived.Test.YtanghmogeiiooaaGreatDoorPa41
set_option linter.unusedVariables false
set_option linter.unusedSimpArgs false
set_option linter.constructorNameAsVariable false
/- step, where its transaction fits. -/
namespace Go.Proofs.YtanghmogeiiooaaGreatDoor
set_option linter.unusedVariables false
set_option linter.unusedSimpArgs false
open Go.RowKit

/-- how a step ends, with the array that it answers -/
def Stepped (B wd d lo hi g b l i m t da : Nat) (S : St) (N : Nat) (want : Nat → Nat) (c : Int) (r : Nat → Nat) (w : World) : Prop :=
  (c = 0 ∧ ∃ S' p' q' used' ts' home', S'.acts ≤ S.acts + 80 ∧ (S.left < 0 → S'.left < 0) ∧ q' + ts'.length ≤ N ∧ LwMem B wd d lo hi g b l i m t da S' p' q' used' ts' home' r w) ∨
  (c = 61 ∧ ¬ S.left < 0 ∧ (∀ k, r k < 256) ∧ ∃ S' home', (S'.acts ≤ S.acts + 80 ∧ S'.n = S.n) ∧ DevAt d lo hi S' w ∧ WldAt wd b l i m t d g home' want w ∧ ∀ S'', Left S' S'' → Tells S'' l b da N want ∨ Tells S'' l b da N r)
section
variable {B wd d lo hi g b l i m t da lo2 hi2 N : Nat} {S : St} {want r home : Nat → Nat} {c : Int} {w w' : World}
theorem LawZ.then {lo3 hi3 : Nat} (h : LawZ lo hi g wd w w') {a : World} (z : Zone lo3 hi3 w' a) (hl : w.heap.size ≤ lo3) : LawZ lo hi g wd w a :=
  ⟨z.os.trans h.os, z.tape.trans h.tape, z.output.trans h.output, Nat.le_trans h.size z.size, fun k hk h1 h2 h3 => (z.block k (Nat.lt_of_lt_of_le hk h.size) (.inl (by omega))).trans (h.block k hk h1 h2 h3)⟩
set_option maxHeartbeats 4000000 in
set_option maxRecDepth 100000 in
theorem WldAt.setWant (h : WldAt wd b l i m t d g home want w) (f : Nat → Nat) : WldAt wd b l i m t d g home f (w.setCells wd 23 (arr12 f).toList) := by
  have h0 := Blk.set h 23 (.int .u8 (f 0 : Int))
  have h1 := Blk.set h0 24 (.int .u8 (f 1 : Int))
  have h2 := Blk.set h1 25 (.int .u8 (f 2 : Int))
  have h3 := Blk.set h2 26 (.int .u8 (f 3 : Int))
  have h4 := Blk.set h3 27 (.int .u8 (f 4 : Int))
  have h5 := Blk.set h4 28 (.int .u8 (f 5 : Int))
  have h6 := Blk.set h5 29 (.int .u8 (f 6 : Int))
  have h7 := Blk.set h6 30 (.int .u8 (f 7 : Int))
  have h8 := Blk.set h7 31 (.int .u8 (f 8 : Int))
  have h9 := Blk.set h8 32 (.int .u8 (f 9 : Int))
  have h10 := Blk.set h9 33 (.int .u8 (f 10 : Int))
  have h11 := Blk.set h10 34 (.int .u8 (f 11 : Int))
  simp only [List.setIfInBounds_toArray, List.set_cons_zero, List.set_cons_succ] at h11
  exact h11
theorem WldAt.wantThere (h : WldAt wd b l i m t d g home want w) : w.there wd 23 12 := fun j hj => ⟨by rw [h.wantAt hj]; rfl, Blk.frozen h (23 + j)⟩
end
end Go.Proofs.YtanghmogeiiooaaGreatDoor

/- step, where its transaction does not fit at first. -/
namespace Go.Proofs.YtanghmogeiiooaaGreatDoor
set_option linter.unusedVariables false
set_option linter.unusedSimpArgs false
open Go.RowKit

end Go.Proofs.YtanghmogeiiooaaGreatDoor

/- step, whichever it is. -/
namespace Go.Proofs.YtanghmogeiiooaaGreatDoor
set_option linter.unusedVariables false
open Go.RowKit

/-- the device, whatever is told of it, and whatever a failure leaves: the blocks as they were committed -/
theorem Wd.fails {S S' : St} {l b da p q used : Nat} {ts : List Tx} {home want : Nat → Nat} (hf : Fit12 l b da) (h : Wd S l b da p q used ts home want) (hL : Left S S') : Tells S' l b da (q + ts.length) want :=
  h.writes_left hf 0 hL
theorem Wd.armed {S : St} {l b da p q used : Nat} {ts : List Tx} {home want : Nat → Nat} (hl : 128 ≤ l ∧ l ≤ 512) (h : Wd S l b da p q used ts home want) (a : Int) : Wd (S.armed a) l b da p q used ts home want :=
  ⟨h.n, h.log.same hl fun x _ _ => rfl, ⟨h.homes.text, h.homes.net⟩, h.clean, h.sizes⟩
end Go.Proofs.YtanghmogeiiooaaGreatDoor

/- JournalPower: the log goes on behind a replay. -/
namespace Go.Proofs.YtanghmogeiiooaaGreatDoor
set_option linter.unusedVariables false
open Go.RowKit

end Go.Proofs.YtanghmogeiiooaaGreatDoor

/- JournalPower and its kin: a device opened of what a crash leaves; what the law holds. -/
namespace Go.Proofs.YtanghmogeiiooaaGreatDoor
set_option linter.unusedVariables false
set_option linter.unusedSimpArgs false
open Go.RowKit

/-- what the law holds: its world, its blocks of the input, the bytes that the blocks may have -/
structure PwMem (w0 : World) (wd d lo hi g b l i m t da zb pb : Nat) (at' : Nat) (kv : Value) (N A : Nat) (home want perhaps : Nat → Nat) (S : St) (w : World) : Prop where
  dev : DevAt d lo hi S w
  wld : WldAt wd b l i m t d g home want w
  per : Blk pb (arr12 perhaps) 36 w
  opt : Blk (zb + 1) #[.int .u16 (at' : Int), kv] 27 w
  below : Below w0.heap.size w0 w
  n : S.n = b
  acts : S.acts ≤ A
  wants : ∀ k, want k < 256
  pers : ∀ k, perhaps k < 256
  tells : ∀ S'', Left S S'' → Tells S'' l b da N want ∨ Tells S'' l b da N perhaps
theorem PwMem.kept1 {w0 : World} {wd d lo hi g b l i m t da zb pb at' : Nat} {kv : Value} {N A : Nat} {home want perhaps : Nat → Nat} {S : St} {w w' : World} (h : PwMem w0 wd d lo hi g b l i m t da zb pb at' kv N A home want perhaps S w) (hb : Below w.heap.size w w') : PwMem w0 wd d lo hi g b l i m t da zb pb at' kv N A home want perhaps S w' :=
  ⟨h.dev.kept1 hb, h.wld.kept1 hb, h.per.kept1 hb, h.opt.kept1 hb, bnext h.below hb, h.n, h.acts, h.wants, h.pers, h.tells⟩
end Go.Proofs.YtanghmogeiiooaaGreatDoor

/- JournalTries: what it is handed, and what it holds between its loops. -/
namespace Go.Proofs.YtanghmogeiiooaaGreatDoor
set_option linter.unusedVariables false
open Go.RowKit

/-- a row of failures: at which act, and what is kept -/
def FailsIn (vo : Value) (m : Nat) (A : Nat → Nat) (K : Nat → List Bool) (w : World) : Prop :=
  ∃ (ad : Option Addr) (cap : Nat), vo = .slice ad m cap ∧ m ≤ cap ∧ cap ≤ 9223372036854775807 ∧ (0 < m → ∃ g o, ad = some ⟨g, o, none⟩ ∧ g < w.heap.size ∧ ∃ KV : Nat → Value,
    ∀ i, i < m → w.cell? ⟨g, o + i * 2, none⟩ = some (.int .u16 (A i : Int)) ∧ w.cell? ⟨g, o + i * 2 + 1, none⟩ = some (KV i) ∧ A i < 65536 ∧ RowIn 1 (KV i) (K i).length ((K i).map Value.bool) w)
theorem FailsIn.kept {vo : Value} {m : Nat} {A : Nat → Nat} {K : Nat → List Bool} {w w' : World} (h : FailsIn vo m A K w) (hb : Below w.heap.size w w') : FailsIn vo m A K w' := by
  obtain ⟨ad, cap, e, h1, h2, h3⟩ := h
  refine ⟨ad, cap, e, h1, h2, fun hp => ?_⟩
  obtain ⟨g, o, e2, hg, KV, hc⟩ := h3 hp
  refine ⟨g, o, e2, Nat.lt_of_lt_of_le hg hb.size, KV, fun i hi => ?_⟩
  obtain ⟨c1, c2, c3, c4⟩ := hc i hi
  exact ⟨(hb.cell (p := ⟨g, o + i * 2, none⟩) hg).trans c1, (hb.cell (p := ⟨g, o + i * 2 + 1, none⟩) hg).trans c2, c3, c4.kept hb⟩
/-- what the law holds behind some steps: its world, the bytes that the blocks may have -/
structure TrMem (w0 : World) (wd d lo hi g b l i m t da pb : Nat) (N A : Nat) (home want perhaps : Nat → Nat) (S : St) (w : World) : Prop where
  dev : DevAt d lo hi S w
  wld : WldAt wd b l i m t d g home want w
  per : Blk pb (arr12 perhaps) 36 w
  below : Below w0.heap.size w0 w
  n : S.n = b
  acts : S.acts ≤ A
  wants : ∀ k, want k < 256
  pers : ∀ k, perhaps k < 256
  tells : ∀ S'', Left S S'' → Tells S'' l b da N want ∨ Tells S'' l b da N perhaps
theorem TrMem.kept1 {w0 : World} {wd d lo hi g b l i m t da pb : Nat} {N A : Nat} {home want perhaps : Nat → Nat} {S : St} {w w' : World} (h : TrMem w0 wd d lo hi g b l i m t da pb N A home want perhaps S w) (hb : Below w.heap.size w w') : TrMem w0 wd d lo hi g b l i m t da pb N A home want perhaps S w' :=
  ⟨h.dev.kept1 hb, h.wld.kept1 hb, h.per.kept1 hb, bnext h.below hb, h.n, h.acts, h.wants, h.pers, h.tells⟩
end Go.Proofs.YtanghmogeiiooaaGreatDoor

/- A replay on a device that may fail: what is told stays told. -/
namespace Go.Proofs.YtanghmogeiiooaaGreatDoor
set_option linter.unusedVariables false
open Go.RowKit

end Go.Proofs.YtanghmogeiiooaaGreatDoor

/- JournalTwice: a device opened of what is kept; a device that is armed tells the same. -/
namespace Go.Proofs.YtanghmogeiiooaaGreatDoor
set_option linter.unusedVariables false
open Go.RowKit

theorem open_kept2 {d lo hi : Nat} {S : St} (w0 : World) (h : DevAt d lo hi S w0) (w : World) :
    Calls Tryz.prog 11 #[.string (cat S.was S.n)] w fun e w' => ∃ d', e = .returned (.tuple #[.pointer (some ⟨d', 0, none⟩), .int .i64 0]) ∧ DevAt d' w.heap.size w'.heap.size (freshSt S.n (blkOf 128 (cat S.was S.n))) w' ∧ Below w.heap.size w w' :=
  open_yes S.n _ h.ok.lo h.ok.hi (cat_len h.ok.was) w
theorem Tells.armed {S : St} {l b da N : Nat} {f : Nat → Nat} (hl : 128 ≤ l ∧ l ≤ 512) (h : Tells S l b da N f) (a : Int) : Tells (S.armed a) l b da N f := by
  obtain ⟨p, q, used, ts, h1, h2, h3⟩ := h
  exact ⟨p, q, used, ts, h1.same hl fun x _ _ => rfl, h2, h3⟩
end Go.Proofs.YtanghmogeiiooaaGreatDoor
