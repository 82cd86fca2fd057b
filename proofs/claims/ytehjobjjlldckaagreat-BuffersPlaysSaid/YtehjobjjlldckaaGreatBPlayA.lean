/- The document's cache: room. -/
import Derived.Test.YtehjobjjlldckaaGreatCRoom
import Derived.Test.YtehjobjjlldckaaGreatDRef3
import Derived.Test.YtehjobjjlldckaaGreatPush
import Derived.Test.YtehjobjjlldckaaGreatCSync
namespace Go.Proofs.YtehjobjjlldckaaGreat
set_option linter.unusedVariables false
open Go.RowKit

/-- the cells of a list of buffers -/
def cellsB : List Buf → List Value
  | [] => []
  | x :: l => .int .i64 (x.b : Int) :: .string x.data :: .bool x.dirty :: .bool x.pin :: cellsB l
theorem cellsB_length : ∀ l, (cellsB l).length = l.length * 4
  | [] => rfl
  | x :: l => by rw [cellsB, List.length_cons, List.length_cons, List.length_cons, List.length_cons, cellsB_length l, List.length_cons]; omega
theorem cellsB_append : ∀ a b, cellsB (a ++ b) = cellsB a ++ cellsB b
  | [], b => rfl
  | x :: a, b => by rw [List.cons_append, cellsB, cellsB, cellsB_append a b]; rfl
theorem cellsB_at : ∀ (l : List Buf) (k : Nat) (h : k < l.length), (cellsB l)[k * 4]? = some (.int .i64 (l[k].b : Int)) ∧ (cellsB l)[k * 4 + 1]? = some (.string l[k].data) ∧ (cellsB l)[k * 4 + 2]? = some (.bool l[k].dirty) ∧ (cellsB l)[k * 4 + 3]? = some (.bool l[k].pin)
  | x :: l, 0, _ => ⟨rfl, rfl, rfl, rfl⟩
  | x :: l, k + 1, h => by
    have := cellsB_at l k (by simpa using h)
    rw [show (k + 1) * 4 = k * 4 + 1 + 1 + 1 + 1 by omega, cellsB]
    exact this
theorem cellsB_dirty : ∀ (l : List Buf) (k : Nat) (h : k < l.length), (cellsB l).set (k * 4 + 2) (.bool false) = cellsB (l.set k (offDirty l[k]))
  | x :: l, 0, _ => rfl
  | x :: l, k + 1, h => by
    have := cellsB_dirty l k (by simpa using h)
    rw [show (k + 1) * 4 + 2 = k * 4 + 2 + 1 + 1 + 1 + 1 by omega, cellsB, List.set_cons_succ, List.set_cons_succ, List.set_cons_succ, List.set_cons_succ, this]
    rfl
theorem cellsB_pin : ∀ (l : List Buf) (k : Nat) (h : k < l.length), (cellsB l).set (k * 4 + 3) (.bool false) = cellsB (l.set k (offPin l[k]))
  | x :: l, 0, _ => rfl
  | x :: l, k + 1, h => by
    have := cellsB_pin l k (by simpa using h)
    rw [show (k + 1) * 4 + 3 = k * 4 + 3 + 1 + 1 + 1 + 1 by omega, cellsB, List.set_cons_succ, List.set_cons_succ, List.set_cons_succ, List.set_cons_succ, this]
    rfl
theorem setB_none {L : List Buf} {b : Int} (f : Buf → Buf) (h : ∀ x ∈ L, (x.b : Int) ≠ b) : setB L b f = L := by
  unfold setB
  rw [List.map_congr_left (g := id) fun x hx => by rw [if_neg (h x hx)]; rfl, List.map_id]
theorem setB_at : ∀ {L : List Buf} (hu : unlike L) {i : Nat} {x : Buf} (h : L[i]? = some x) (f : Buf → Buf), setB L x.b f = L.set i (f x)
  | [], _, i, x, h, _ => by cases h
  | y :: L, hu, 0, x, h, f => by
    obtain rfl : y = x := by simpa using h
    unfold unlike at hu
    rw [List.map_cons, List.nodup_cons] at hu
    have e : setB (y :: L) y.b f = f y :: setB L y.b f := by unfold setB; rw [List.map_cons, if_pos rfl]
    rw [e, setB_none f fun z hz e => hu.1 (mem_b hz e)]; rfl
  | y :: L, hu, i + 1, x, h, f => by
    have h : L[i]? = some x := by simpa using h
    unfold unlike at hu
    rw [List.map_cons, List.nodup_cons] at hu
    have hx : x ∈ L := List.mem_of_getElem? h
    have hy : (y.b : Int) ≠ (x.b : Int) := fun e => hu.1 (by rw [show y.b = x.b by omega]; exact List.mem_map_of_mem hx)
    have e : setB (y :: L) x.b f = y :: setB L x.b f := by unfold setB; rw [List.map_cons, if_neg hy]
    rw [e, setB_at hu.2 h f]; rfl
theorem atB_at {L : List Buf} (hu : unlike L) {i : Nat} {x : Buf} (h : L[i]? = some x) : atB L x.b = some x := atB_mem hu (List.mem_of_getElem? h)
theorem bget {L : List Buf} {k : Nat} (hk : k < L.length) : L[k]? = some L[k] := List.getElem?_eq_getElem hk

/-- v holds the buffers, in a row of its own at B or behind -/
abbrev BufsAt (B : Nat) (v : Value) (L : List Buf) (w : World) : Prop := w.ownsRow B 83 4 v L.length (cellsB L)
theorem info_buf : (Tryz.prog.info? 83).map (fun i => (i.zero, i.size, i.bytes)) = some (some (.agg #[.int .i64 0, .string ⟨#[]⟩, .bool false, .bool false]), 4, 32) := by kernel_rfl
theorem buf_cells {B g cap n : Nat} {L : List Buf} {w : World} (h : w.ownsRow B 83 4 (.slice (some ⟨g, 0, none⟩) n cap) n (cellsB L)) (k : Nat) (hk : k < L.length) :
    w.cell? ⟨g, k * 4, none⟩ = some (.int .i64 (L[k].b : Int)) ∧ w.cell? ⟨g, k * 4 + 1, none⟩ = some (.string L[k].data) ∧ w.cell? ⟨g, k * 4 + 2, none⟩ = some (.bool L[k].dirty) ∧ w.cell? ⟨g, k * 4 + 3, none⟩ = some (.bool L[k].pin) := by
  have e : n * 4 = L.length * 4 := by rw [← cellsB_length, ← h.1]
  obtain ⟨h1, h2, h3, h4⟩ := cellsB_at L k hk
  exact ⟨(h.cellAt _ (by omega)).trans h1, (h.cellAt _ (by omega)).trans h2, (h.cellAt _ (by omega)).trans h3, (h.cellAt _ (by omega)).trans h4⟩

def cellsRC (d : Nat) (most : Nat) (v : Value) : Array Value := #[.pointer (some ⟨d, 0, none⟩), .int .i64 (most : Int), v]
def MR (r : Nat) (v : Value) : Nat → Prop := fun k => k = r ∨ v.ownBlock = some k
/-- the document's cache r, over its device d in the zone from lo to hi, its row being v -/
structure RC (r d lo hi : Nat) (v : Value) (C : CS) (w : World) : Prop where
  ok : C.ok
  blk : Blk r (cellsRC d C.most v) 71 w
  row : BufsAt 0 v C.L w
  dev : RefAt d lo hi C.st w
  zr : ¬ (lo ≤ r ∧ r < hi)
  zv : ∀ k, v.ownBlock = some k → ¬ (lo ≤ k ∧ k < hi) ∧ k ≠ r
section
variable {r d lo hi : Nat} {v : Value} {C : CS} {w w' : World}
theorem RC.turn {N : Nat → Prop} (h : RC r d lo hi v C w) (t : Turn N w w') (h1 : ∀ k, N k → ¬ MR r v k) (h2 : ∀ k, N k → ¬ (lo ≤ k ∧ k < hi)) : RC r d lo hi v C w' := by
  refine ⟨h.ok, h.blk.turn t (fun hn => h1 _ hn (.inl rfl)), ⟨h.row.1, h.row.2.imp id fun ⟨g, cap, cur, a, b, c, k⟩ => ⟨g, cap, cur, a, b, (t.block g (lt_of_block c) fun hn => h1 g hn (.inr (by rw [a]; rfl))).trans c, k⟩⟩, ?_, h.zr, h.zv⟩
  obtain ⟨gn, gk, gp, cn, ck, cp, e⟩ := h.dev
  have hn : ∀ k, (lo ≤ k ∧ k < hi) → ¬ N k := fun k hk hm => h2 k hm hk
  exact ⟨gn, gk, gp, cn, ck, cp, e.ok, e.blk.turn t (hn _ e.zd), e.now.turn t (hn _ e.zn), e.was.turn t (hn _ e.zk), e.pend.turn t (hn _ e.zp), e.cn, e.ck, e.cp, e.zd, e.zn, e.zk, e.zp, Nat.le_trans e.top t.size, e.a1, e.a2, e.a3, e.a4, e.a5, e.a6⟩
theorem RC.kept1 (h : RC r d lo hi v C w) (b : Below w.heap.size w w') : RC r d lo hi v C w' :=
  h.turn (Turn.of_below b fun _ => False) (fun _ h => h.elim) fun _ h => h.elim
/-- the device is another one -/
theorem RC.on (h : RC r d lo hi v C w) {S : St} (hd : RefAt d lo hi S w') (z : Zone lo hi w w') (hn : S.n = C.st.n) : RC r d lo hi v (C.on S) w' := by
  have t : Turn (fun k => lo ≤ k ∧ k < hi) w w' := Turn.of_zone z fun k h1 h2 => ⟨h1, h2⟩
  exact ⟨on_ok h.ok hd.ok hn, h.blk.turn t h.zr, ⟨h.row.1, h.row.2.imp id fun ⟨g, cap, cur, a, b, c, k⟩ => ⟨g, cap, cur, a, b, (t.block g (lt_of_block c) (h.zv g (by rw [a]; rfl)).1).trans c, k⟩⟩, hd, h.zr, h.zv⟩
theorem RC.cells (h : RC r d lo hi v C w) : w.cell? ⟨r, 0, none⟩ = some (.pointer (some ⟨d, 0, none⟩)) ∧ w.cell? ⟨r, 1, none⟩ = some (.int .i64 (C.most : Int)) ∧ w.cell? ⟨r, 2, none⟩ = some v :=
  ⟨h.blk.cell 0, h.blk.cell 1, h.blk.cell 2⟩
theorem RC.shape (h : RC r d lo hi v C w) : ∃ ad cap, v = .slice ad C.L.length cap ∧ C.L.length ≤ cap ∧ cap ≤ maxLen ∧ (0 < C.L.length → ∃ g, ad = some ⟨g, 0, none⟩ ∧ g < w.heap.size) := by
  obtain ⟨ad, cap, rfl, h1, h2, h3⟩ := shape_of h.row
  exact ⟨ad, cap, rfl, h1, h2, fun hp => by obtain ⟨g, e, _, hg⟩ := h3 hp; exact ⟨g, e, hg⟩⟩
theorem RC.most (h : RC r d lo hi v C w) : C.L.length ≤ 256 := Nat.le_trans h.ok.len h.ok.hi
theorem RC.lt (h : RC r d lo hi v C w) {k : Nat} (hk : MR r v k) : k < w.heap.size := by
  rcases hk with rfl | hk
  · exact h.blk.lt
  · exact (h.row.lt k hk).2
/-- another row in the field -/
theorem RC.store (h : RC r d lo hi v C w) {w1 : World} {v' : Value} {L' : List Buf} (t : Turn (MR r v) w w1) (hb : Blk r (cellsRC d C.most v) 71 w1) (hrow : BufsAt 0 v' L' w1) (hs : v'.ownBlock = v.ownBlock ∨ ∀ k, v'.ownBlock = some k → w.heap.size ≤ k) (hok : CS.ok { C with L := L' }) :
    RC r d lo hi v' { C with L := L' } (w1.setCell ⟨r, 2, none⟩ v') ∧ Went lo hi (MR r v) (MR r v') w (w1.setCell ⟨r, 2, none⟩ v') := by
  have hr := h.blk.lt
  have hz : ∀ k, v'.ownBlock = some k → ¬ (lo ≤ k ∧ k < hi) ∧ k ≠ r := fun k hk => by
    rcases hs with e | e
    · exact h.zv k (by rw [← e]; exact hk)
    · have := e k hk
      have : hi ≤ w.heap.size := h.dev.top
      omega
  have hnm : ∀ k, (lo ≤ k ∧ k < hi) → ¬ MR r v k := fun k hk hm => by
    rcases hm with rfl | hm
    · exact h.zr hk
    · exact (h.zv k hm).1 hk
  obtain ⟨gn, gk, gp, cn, ck, cp, e⟩ := h.dev
  have t2 := t.set (p := ⟨r, 2, none⟩) (.inl rfl) v'
  refine ⟨⟨hok, hb.set 2 v', ?_, ⟨gn, gk, gp, cn, ck, cp, e.ok, e.blk.turn t2 (hnm _ e.zd), e.now.turn t2 (hnm _ e.zn), e.was.turn t2 (hnm _ e.zk), e.pend.turn t2 (hnm _ e.zp), e.cn, e.ck, e.cp, e.zd, e.zn, e.zk, e.zp, Nat.le_trans e.top t2.size, e.a1, e.a2, e.a3, e.a4, e.a5, e.a6⟩, h.zr, hz⟩, Went.of t2 fun k hk => ?_⟩
  · exact ⟨hrow.1, hrow.2.imp id fun ⟨g, cap, cur, a, b, c, k⟩ => ⟨g, cap, cur, a, b, (Below.heap_setCell w1 _ v' g fun e => (hz g (by rw [a]; rfl)).2 e).trans c, k⟩⟩
  · rcases hk with rfl | hk
    · exact .inl (.inl rfl)
    · rcases hs with e | e
      · exact .inl (.inr (by rw [← e]; exact hk))
      · exact .inr (e k hk)
end
/-- .. its memory as a set -/
def CacheRt (c d lo hi : Nat) (M : Nat → Prop) (U : Nat) (C : CS) (w : World) : Prop := ∃ v, RC c d lo hi v C w ∧ M = MR c v
section
variable {c d lo hi U : Nat} {M N : Nat → Prop} {C : CS} {w w' : World}
theorem CacheRt.kept1 (h : CacheRt c d lo hi M U C w) (b : Below w.heap.size w w') : CacheRt c d lo hi M U C w' := by
  obtain ⟨v, h, e⟩ := h; exact ⟨v, h.kept1 b, e⟩
theorem CacheRt.turn (h : CacheRt c d lo hi M U C w) (t : Turn N w w') (h1 : ∀ k, N k → ¬ M k) (h2 : ∀ k, N k → ¬ (lo ≤ k ∧ k < hi)) : CacheRt c d lo hi M U C w' := by
  obtain ⟨v, h, rfl⟩ := h; exact ⟨v, h.turn t h1 h2, rfl⟩
theorem CacheRt.dev (h : CacheRt c d lo hi M U C w) : RefAt d lo hi C.st w := by obtain ⟨v, h, _⟩ := h; exact h.dev
theorem CacheRt.ok (h : CacheRt c d lo hi M U C w) : C.ok := by obtain ⟨v, h, _⟩ := h; exact h.ok
theorem CacheRt.on (h : CacheRt c d lo hi M U C w) {S : St} (hd : RefAt d lo hi S w') (z : Zone lo hi w w') (hn : S.n = C.st.n) : CacheRt c d lo hi M U (C.on S) w' := by
  obtain ⟨v, h, e⟩ := h; exact ⟨v, h.on hd z hn, e⟩
theorem CacheRt.more {U' : Nat} (h : CacheRt c d lo hi M U C w) (_ : U ≤ U') : CacheRt c d lo hi M U' C w := h
theorem CacheRt.lt (h : CacheRt c d lo hi M U C w) {k : Nat} (hk : M k) : k < w.heap.size := by
  obtain ⟨v, h, rfl⟩ := h; exact h.lt hk
end
end Go.Proofs.YtehjobjjlldckaaGreat

namespace Go.Proofs.YtehjobjjlldckaaGreat
set_option linter.unusedVariables false
open Go.RowKit

abbrev bufL (b : Int) (data : ByteArray) (dirty pin : Bool) : List Value := [.int .i64 b, .string data, .bool dirty, .bool pin]
theorem one4 (b : Int) (data : ByteArray) (dirty pin : Bool) : ∀ u ∈ bufL b data dirty pin, u.oneCell' = true := by
  intro u hu; simp at hu; rcases hu with rfl | rfl | rfl | rfl <;> rfl
theorem new4 (w : World) (b : Int) (data : ByteArray) (dirty pin : Bool) : ∀ (j : Nat) (u : Value), (bufL b data dirty pin)[j]? = some u → (w.alloc (.cells #[.int .i64 b, .string data, .bool dirty, .bool pin] 83)).cell? ((⟨w.heap.size, 0, none⟩ : Addr).add j) = some u := by
  intro j u hj
  rw [add_at, World.cell?_alloc_mark, Nat.zero_add]
  simpa using hj
theorem push4_run (w : World) (ty : TypeId) (v : Value) (L : List Buf) (hn : L.length ≤ 4000) (hown : BufsAt 0 v L w) (hh : Nat) (b : Int) (data : ByteArray) (dirty pin : Bool) (hnews : ∀ j x, (bufL b data dirty pin)[j]? = some x → w.cell? ((⟨hh, 0, none⟩ : Addr).add j) = some x) :
    ∃ v' w', (Builtin.append_ #[69, 69] ty #[v, .slice (some ⟨hh, 0, none⟩) 1 1]).run Tryz.prog w = .ok v' w' ∧ w'.ownsRow 0 83 4 v' (L.length + 1) (cellsB L ++ bufL b data dirty pin) ∧ w.grownBy w' v.ownBlock ∧ Stays v v' w.heap.size := by
  obtain ⟨i, hi0, hz0, hs0, hb0⟩ := info_parts info_buf
  have h1 := one4 b data dirty pin
  have R := fun q (hb : q ≤ w.heap.size) (ho : w.ownsRow q 83 4 v L.length (cellsB L)) => run_append_own (P := Tryz.prog) w q 69 ty 83 i _ 4 32 Tryz.underlying69 hi0 hz0 hs0 hb0 rfl (by decide) v L.length (cellsB L) ho ⟨hh, 0, none⟩ 1 1 (bufL b data dirty pin) rfl hnews h1 (by unfold maxLen; omega) (by omega) hb
  obtain ⟨v', w', hr, h2, h3, _⟩ := R 0 (Nat.zero_le _) hown
  refine ⟨v', w', hr, h2, h3, ?_⟩
  rcases hown.2 with ⟨rfl, hx⟩ | ⟨g, cap, cur, rfl, hbg, hg, hnc, hcm, hcs, htake⟩
  · have h0 : L.length = 0 := by simpa using hx
    have hx : L = [] := List.eq_nil_of_length_eq_zero h0
    subst hx
    obtain ⟨v2, w2, hr2, k2, _, _⟩ := R w.heap.size (Nat.le_refl _) (World.ownsRow_nil _ _ _ _)
    rw [hr] at hr2
    obtain ⟨rfl, rfl⟩ : v' = v2 ∧ w' = w2 := by injection hr2 with a b; exact ⟨a, b⟩
    exact .inr fun k hk => (k2.lt k hk).1
  · by_cases hroom : L.length + 1 ≤ cap
    · obtain ⟨w2, hr2, _, _⟩ := run_append_fits (P := Tryz.prog) w 0 69 ty 83 i 4 Tryz.underlying69 hi0 hs0 g L.length cap (cellsB L) hown ⟨hh, 0, none⟩ 1 1 (bufL b data dirty pin) rfl hnews h1 hroom
      rw [hr] at hr2
      injection hr2 with a b
      subst a
      exact .inl rfl
    · have hr2 := run_append_grow (P := Tryz.prog) w 69 ty 83 i _ Tryz.underlying69 hi0 hz0 ⟨g, 0, none⟩ L.length cap (cellsB L) (by rw [hs0]; exact hown.1) (hown.cells (g := g) rfl) ⟨hh, 0, none⟩ 1 1 (bufL b data dirty pin) (by rw [hs0]; rfl) hnews (by omega) (by omega) (growslice_fits (by omega) (by rw [hb0]; omega))
      rw [hr] at hr2
      injection hr2 with a b
      subst a
      exact .inr fun k hk => by
        have : some w.heap.size = some k := hk
        injection this with h; omega
theorem cellsB_front (L : List Buf) (i : Nat) {j : Nat} {u : Value} (h : (cellsB (L.take i))[j]? = some u) : (cellsB L)[j]? = some u := by
  have e : cellsB L = cellsB (L.take i) ++ cellsB (L.drop i) := by rw [← cellsB_append, List.take_append_drop]
  obtain ⟨h1, -⟩ := List.getElem?_eq_some_iff.1 h
  rw [e, List.getElem?_append_left h1]; exact h
theorem cellsB_back (L : List Buf) (i : Nat) (hi : i ≤ L.length) {j : Nat} {u : Value} (h : (cellsB (L.drop i))[j]? = some u) : (cellsB L)[i * 4 + j]? = some u := by
  have e : cellsB L = cellsB (L.take i) ++ cellsB (L.drop i) := by rw [← cellsB_append, List.take_append_drop]
  have hl : (cellsB (L.take i)).length = i * 4 := by rw [cellsB_length, List.length_take, Nat.min_eq_left hi]
  rw [e, List.getElem?_append_right (by omega), hl, Nat.add_sub_cancel_left]; exact h
theorem bufs_front {B g cap n : Nat} {L : List Buf} {w : World} (h : w.ownsRow B 83 4 (.slice (some ⟨g, 0, none⟩) n cap) n (cellsB L)) (i : Nat) :
    ∀ j u, (cellsB (L.take i))[j]? = some u → w.cell? ((⟨g, 0, none⟩ : Addr).add j) = some u := fun j u hu => by
  have hu := cellsB_front L i hu
  obtain ⟨h1, -⟩ := List.getElem?_eq_some_iff.1 hu
  rw [add_at, Nat.zero_add]; exact (h.cellAt j (by rw [← h.1]; exact h1)).trans hu
theorem bufs_back {B g cap n : Nat} {L : List Buf} {w : World} (h : w.ownsRow B 83 4 (.slice (some ⟨g, 0, none⟩) n cap) n (cellsB L)) (i : Nat) (hi : i ≤ L.length) (A : Addr) (hA : i < L.length → A = ⟨g, i * 4, none⟩) :
    ∀ j u, (cellsB (L.drop i))[j]? = some u → w.cell? (A.add j) = some u := fun j u hu => by
  have h0 : i < L.length := by
    obtain ⟨h1, -⟩ := List.getElem?_eq_some_iff.1 hu
    rw [cellsB_length, List.length_drop] at h1; omega
  have hu := cellsB_back L i hi hu
  obtain ⟨h1, -⟩ := List.getElem?_eq_some_iff.1 hu
  rw [hA h0, add_at]; exact (h.cellAt _ (by rw [← h.1]; exact h1)).trans hu
theorem cellsB_one : ∀ (L : List Buf), ∀ u ∈ cellsB L, u.oneCell' = true
  | [], u, h => by cases h
  | x :: L, u, h => by
    rw [cellsB] at h
    simp only [List.mem_cons] at h
    rcases h with rfl | rfl | rfl | rfl | h
    · rfl
    · rfl
    · rfl
    · rfl
    · exact cellsB_one L u h
theorem wpList_app4 {ops : Array Oper} {rest : List Oper} {o : Oper} {a : Act} {Q : Exit → Act → World → Prop} {w : World} (hgd : o.guard = none) (s x : Operand)
    (ho : o.op = .call { callee := .builtin .append, args := #[s, x], argTypes := #[69, 69] })
    (base : Nat) (v : Value) (L : List Buf) (hs : a.eval s = v) (hown : BufsAt base v L w)
    (ad : Addr) (m c : Nat) (N : List Buf) (hm : N.length = m) (hx : a.eval x = .slice (some ad) m c) (hnews : ∀ j u, (cellsB N)[j]? = some u → w.cell? (ad.add j) = some u)
    (R : List Buf) (hR : Hid (L ++ N = R)) (hlen : L.length + m ≤ 4000) (hbase : base ≤ w.heap.size)
    (h : ∀ v' w', BufsAt base v' R w' → Below base w w' → wpList Tryz.prog ops Q rest (a.put o.dst v') w') : wpList Tryz.prog ops Q (o :: rest) a w := by
  obtain ⟨i0, hi, hz0, hz1, hz2⟩ := info_parts info_buf
  have hR := hR.out
  subst hR
  refine wpList_append_own (w := w) hgd s x 69 ho base 83 i0 _ 4 32 Tryz.underlying69 hi hz0 hz1 hz2 rfl (by decide) v _ _ hs hown ad m c (cellsB N) hx (by rw [cellsB_length, hm]) hnews (cellsB_one N) (by unfold maxLen; omega) (by omega) hbase ?_
  intro v' w' h1 h2 _
  refine h v' w' ?_ (below_of_row hown h2 hbase)
  show w'.ownsRow _ _ _ _ (L ++ N).length (cellsB (L ++ N))
  rw [List.length_append, cellsB_append, hm]; exact h1
end Go.Proofs.YtehjobjjlldckaaGreat

namespace Go.Proofs.YtehjobjjlldckaaGreat
set_option linter.unusedVariables false
open Go.RowKit

theorem place_first {L : List Buf} (hu : unlike L) {i : Nat} {x : Buf} (h : L[i]? = some x) : ∀ j (hj : j < L.length), j < i → (L[j].b : Int) ≠ (x.b : Int) := fun j hj hji e => by
  obtain ⟨hi, rfl⟩ := List.getElem?_eq_some_iff.1 h
  unfold unlike at hu
  have h1 : (L.map Buf.b)[j]'(by simpa using hj) = (L.map Buf.b)[i]'(by simpa using hi) := by rw [List.getElem_map, List.getElem_map]; omega
  have hp := List.pairwise_iff_getElem.1 hu
  exact hp j i (by simpa using hj) (by simpa using hi) hji h1
set_option maxHeartbeats 2000000 in
theorem rplace_none {r d lo hi : Nat} {v : Value} {C : CS} (b : Int) (hb : I64 b) (h0 : atB C.L b = none) (w : World) (h : RC r d lo hi v C w) :
    Calls Tryz.prog 53 #[.pointer (some ⟨r, 0, none⟩), .int .i64 b] w fun e w' => e = .returned (.int .i64 (-1)) ∧ w = w' := by
  obtain ⟨ad, cap, rfl, l1, l2, had⟩ := h.shape
  obtain ⟨c0, c1, c2⟩ := h.cells
  have hm := h.most
  have HR := Lib.hid h.row
  have HN := Lib.hid (atB_none h0)
  have HA := Lib.hid had
  clear h had h0
  generalize C.L = L at *
  go_enter Tryz.func53, Tryz.ntmps53
  go_wp2
  go_loop [5] (fun q => ∃ k : Nat, q = .int .i64 k ∧ k ≤ L.length) (fun q => L.length - (intOf q).toNat)
  case atStart => exact ⟨0, rfl, Nat.zero_le _⟩
  case round =>
    obtain ⟨k, rfl, hk⟩ := hrel
    by_cases hlt : k < L.length
    · obtain ⟨g, rfl, hg⟩ := HA.out (by omega)
      obtain ⟨q1, q2, q3, q4⟩ := buf_cells HR.out k hlt
      have t1 : ((L[k].b : Int) == b) = false := beq_eq_false_iff_ne.2 (HN.out _ (List.getElem_mem hlt))
      generalize L[k].b = x at *
      clear q2 q3 q4
      go_wp2
      exact ⟨⟨k + 1, by go_num, by omega⟩, by simp [intOf]; omega⟩
    · obtain rfl : k = L.length := by omega
      go_wp2
      go_ret
      exact ⟨rfl, rfl⟩
set_option maxHeartbeats 2000000 in
theorem rplace_some {r d lo hi : Nat} {v : Value} {C : CS} (b : Int) (hb : I64 b) {x : Buf} {i : Nat} (hx : (x.b : Int) = b) (h0 : C.L[i]? = some x) (w : World) (h : RC r d lo hi v C w) :
    Calls Tryz.prog 53 #[.pointer (some ⟨r, 0, none⟩), .int .i64 b] w fun e w' => e = .returned (.int .i64 (i : Int)) ∧ w = w' := by
  obtain ⟨ad, cap, rfl, l1, l2, had⟩ := h.shape
  obtain ⟨c0, c1, c2⟩ := h.cells
  have hm := h.most
  have HR := Lib.hid h.row
  have HN := Lib.hid (place_first h.ok.un h0)
  obtain ⟨hil, hxe⟩ := List.getElem?_eq_some_iff.1 h0
  obtain ⟨g, rfl, hg⟩ := had (by omega)
  have HX := Lib.hid (show (C.L[i].b : Int) = b by rw [hxe]; exact hx)
  rw [hx] at HN
  clear h had h0 hx hxe
  generalize C.L = L at *
  go_enter Tryz.func53, Tryz.ntmps53
  go_wp2
  go_loop [5] (fun q => ∃ k : Nat, q = .int .i64 k ∧ k ≤ i) (fun q => L.length - (intOf q).toNat)
  case atStart => exact ⟨0, rfl, Nat.zero_le _⟩
  case round =>
    obtain ⟨k, rfl, hk⟩ := hrel
    have hlt : k < L.length := by omega
    obtain ⟨q1, q2, q3, q4⟩ := buf_cells HR.out k hlt
    by_cases hki : k < i
    · have t1 : ((L[k].b : Int) == b) = false := beq_eq_false_iff_ne.2 (HN.out _ hlt hki)
      generalize L[k].b = y at *
      clear q2 q3 q4
      go_wp2
      exact ⟨⟨k + 1, by go_num, by omega⟩, by simp [intOf]; omega⟩
    · obtain rfl : k = i := by omega
      have t1 : ((L[k].b : Int) == b) = true := beq_iff_eq.2 HX.out
      generalize L[k].b = y at *
      clear q2 q3 q4
      go_wp2
      go_ret
      exact ⟨rfl, rfl⟩
set_option maxHeartbeats 2000000 in
theorem rwithout_any {r d lo hi : Nat} {v : Value} {C : CS} (i : Nat) (hil : i < C.L.length) (w : World) (h : RC r d lo hi v C w) :
    Calls Tryz.prog 70 #[.pointer (some ⟨r, 0, none⟩), .int .i64 (i : Int)] w fun e w' => ∃ ad m cp, e = .returned (.slice ad m cp) ∧ BufsAt w.heap.size (.slice ad m cp) (C.L.take i ++ C.L.drop (i + 1)) w' ∧ Below w.heap.size w w' := by
  obtain ⟨ad, cap, rfl, l1, l2, had⟩ := h.shape
  obtain ⟨c0, c1, c2⟩ := h.cells
  have hm := h.most
  have HR := Lib.hid h.row
  have HB := Lib.hid h.blk
  obtain ⟨g, rfl, hg⟩ := had (by omega)
  unfold maxLen at l2
  clear h had
  generalize C.L = L at *
  go_enter Tryz.func70, Tryz.ntmps70
  go_wp2_with (at_builtin; refine wpList_app4 rfl _ _ rfl w.heap.size _ [] rfl (World.ownsRow_nil _ _ _ _) ⟨g, 0, none⟩ i cap (L.take i) (by simp; omega) rfl (bufs_front HR.out i) _ (Lib.hid rfl) (by simp; omega) (Nat.le_refl _) ?_)
  intro v2 w2 h2 b2
  have k0 : w2.cell? ⟨r, 2, none⟩ = some (.slice (some ⟨g, 0, none⟩) L.length cap) := (HB.out.kept1 b2).cell 2
  have hR2 := row_kept HR.out b2
  have hs2 := b2.size
  clear c0 c1 c2
  rcases Nat.lt_or_ge (i + 1) cap with hjc | hjc
  · have hjc2 : ¬ cap = i + 1 := by omega
    go_wp2_with (at_builtin; refine wpList_app4 rfl _ _ rfl w.heap.size _ _ rfl h2 ⟨g, (i + 1) * 4, none⟩ (L.length - (i + 1)) (cap - (i + 1)) (L.drop (i + 1)) (by simp) rfl (bufs_back hR2 (i + 1) (by omega) _ fun _ => rfl) _ (Lib.hid rfl) (by simp; omega) hs2 ?_)
    intro v3 w3 h3 b3
    obtain ⟨av, cv, e9, -⟩ := shape_of h3
    obtain ⟨m9, hm9⟩ : ∃ m, (L.take i ++ L.drop (i + 1)).length = m := ⟨_, rfl⟩
    rw [hm9] at e9
    subst e9
    have HZ := Lib.hid (And.intro h3 (b2.trans b3))
    clear hm9
    clear h2 b2 h3 b3 hR2 k0
    go_wp2
    go_ret
    exact ⟨_, _, _, rfl, HZ.out⟩
  · obtain rfl : cap = i + 1 := by omega
    have hL : L.length = i + 1 := by omega
    go_wp2_with (at_builtin; refine wpList_app4 rfl _ _ rfl w.heap.size _ _ rfl h2 ⟨g, 0, none⟩ 0 0 [] rfl rfl (fun j u h => by cases h) (L.take i ++ L.drop (i + 1)) (Lib.hid (by rw [List.drop_eq_nil_of_le (by omega)])) (by simp; omega) hs2 ?_)
    intro v3 w3 h3 b3
    obtain ⟨av, cv, e9, -⟩ := shape_of h3
    obtain ⟨m9, hm9⟩ : ∃ m, (L.take i ++ L.drop (i + 1)).length = m := ⟨_, rfl⟩
    rw [hm9] at e9
    subst e9
    have HZ := Lib.hid (And.intro h3 (b2.trans b3))
    clear hm9
    clear h2 b2 h3 b3 hR2 k0
    go_wp2
    go_ret
    exact ⟨_, _, _, rfl, HZ.out⟩
end Go.Proofs.YtehjobjjlldckaaGreat

namespace Go.Proofs.YtehjobjjlldckaaGreat
set_option linter.unusedVariables false
open Go.RowKit

theorem free_none {L : List Buf} (h : freeB L = none) : ∀ k (hk : k < L.length), L[k].pin = true := fun k hk => by
  have := List.find?_eq_none.1 h L[k] (List.getElem_mem hk)
  simpa using this
theorem free_at : ∀ {L : List Buf} {x : Buf}, freeB L = some x → ∃ i, L[i]? = some x ∧ x.pin = false ∧ ∀ j (hj : j < L.length), j < i → L[j].pin = true
  | [], x, h => by cases h
  | y :: L, x, h => by
    unfold freeB at h
    rw [List.find?_cons] at h
    cases hp : y.pin with
    | false =>
      rw [hp] at h
      obtain rfl : y = x := by simpa using h
      exact ⟨0, rfl, hp, fun j hj h => by omega⟩
    | true =>
      rw [hp] at h
      obtain ⟨i, h1, h2, h3⟩ := free_at (L := L) (x := x) (by unfold freeB; simpa using h)
      refine ⟨i + 1, by simpa using h1, h2, fun j hj hji => ?_⟩
      cases j with
      | zero => exact hp
      | succ j => exact h3 j (by simpa using hj) (by omega)
theorem RC.less {r d lo hi i : Nat} {v v' : Value} {C : CS} {w w1 : World} {x : Buf} (h : RC r d lo hi v C w) (hx : C.L[i]? = some x) (hrow : BufsAt w.heap.size v' (C.L.take i ++ C.L.drop (i + 1)) w1) (b : Below w.heap.size w w1) :
    RC r d lo hi v' { C with L := dropB C.L x.b } (w1.setCell ⟨r, 2, none⟩ v') ∧ Went lo hi (MR r v) (MR r v') w (w1.setCell ⟨r, 2, none⟩ v') := by
  rw [← dropB_erase h.ok.un hx] at hrow
  exact h.store (Turn.of_below b _) (h.blk.kept1 b) (row_down (Nat.zero_le _) hrow) (.inr fun k hk => (hrow.lt k hk).1) (drop_ok h.ok x.b)
theorem MR_mem {r : Nat} {v : Value} {k : Nat} (h : k = r) : MR r v k := .inl h

/-- what room leaves -/
def RoomR (r d lo hi : Nat) (v : Value) (C : CS) (w : World) (e : Ending) (w' : World) : Prop :=
  ∃ v', e = .returned (.int .i64 (roomC C).1) ∧ RC r d lo hi v' (roomC C).2 w' ∧ Went lo hi (MR r v) (MR r v') w w'
theorem RoomR.from {r d lo hi : Nat} {v : Value} {C : CS} {w w1 w' : World} {e : Ending} (b : Below w.heap.size w w1) (h : RoomR r d lo hi v C w1 e w') : RoomR r d lo hi v C w e w' := by
  obtain ⟨v', h1, h2, h3⟩ := h
  exact ⟨v', h1, h2, (Went.below b).trans h3⟩
set_option maxHeartbeats 8000000 in
theorem rroom_any {r d lo hi : Nat} {v : Value} {C : CS} (ha : C.st.acts ≤ 1000000) (w : World) (h : RC r d lo hi v C w) :
    Calls Tryz.prog 71 #[.pointer (some ⟨r, 0, none⟩)] w (RoomR r d lo hi v C w) := by
  have mixed : Tryz.prog.follows .mixedOrders = true := by kernel_rfl
  obtain ⟨ad, cap, rfl, l1, l2, had⟩ := h.shape
  have hm := h.most
  have hmost := h.ok.hi
  have k1 : ∀ p : BelowP w, p.to.cell? ⟨r, 1, none⟩ = some (.int .i64 (C.most : Int)) := fun p => (h.kept1 p.h).cells.2.1
  have k2 : ∀ p : BelowP w, p.to.cell? ⟨r, 2, none⟩ = some (.slice ad C.L.length cap) := fun p => (h.kept1 p.h).cells.2.2
  have H := Lib.hid h
  by_cases hfull : C.L.length < C.most
  · have HE : Hid (∀ w1, Below w.heap.size w w1 → RoomR r d lo hi (.slice ad C.L.length cap) C w (.returned (.int .i64 0)) w1) := Lib.hid fun w1 b => (by
      have e : roomC C = (0, C) := by unfold roomC; rw [if_pos hfull]
      exact ⟨_, by rw [e], by rw [e]; exact h.kept1 b, Went.below b⟩)
    clear h had H
    go_enter Tryz.func71, Tryz.ntmps71
    go_wp2
    refine wp_region_quiet_below mixed (by kernel_rfl) ?_
    repeat (go_big_quiet_step (fail))
    refine wpQuiet_nil ?_
    intro w0q hw'
    obtain ⟨⟨wq, bq⟩, hw''⟩ := hw'
    have hw2 : wq = w0q := hw''.symm
    clear hw''
    subst hw2
    have HE := Lib.hid (HE.out _ bq)
    clear k1 k2
    go_wp2
    go_ret
    exact HE.out
  · have hfull2 : C.most ≤ C.L.length := by omega
    cases hf : freeB C.L with
    | none =>
      have HE : Hid (∀ w1, Below w.heap.size w w1 → RoomR r d lo hi (.slice ad C.L.length cap) C w (.returned (.int .i64 70)) w1) := Lib.hid fun w1 b => (by
        have e : roomC C = (70, C) := by unfold roomC; rw [if_neg hfull, hf]
        exact ⟨_, by rw [e], by rw [e]; exact h.kept1 b, Went.below b⟩)
      have HP := Lib.hid (free_none hf)
      have HA := Lib.hid had
      clear h had hf
      go_enter Tryz.func71, Tryz.ntmps71
      go_wp2
      refine wp_region_quiet_below mixed (by kernel_rfl) ?_
      repeat (go_big_quiet_step (fail))
      refine wpQuiet_nil ?_
      intro w0q hw'
      obtain ⟨⟨wq, bq⟩, hw''⟩ := hw'
      have hw2 : wq = w0q := hw''.symm
      clear hw''
      subst hw2
      have HE := Lib.hid (HE.out _ bq)
      have c2 := (H.out.kept1 bq).cells.2.2
      have HR := Lib.hid (H.out.kept1 bq).row
      clear k1 k2 H bq
      go_wp2
      go_loop [3] (fun q => ∃ k : Nat, q = .int .i64 k ∧ k ≤ C.L.length) (fun q => C.L.length - (intOf q).toNat)
      case atStart => exact ⟨0, rfl, Nat.zero_le _⟩
      case round =>
        obtain ⟨k, rfl, hk⟩ := hrel
        by_cases hlt : k < C.L.length
        · obtain ⟨g, rfl, hg⟩ := HA.out (by omega)
          obtain ⟨q1, q2, q3, q4⟩ := buf_cells HR.out k hlt
          rw [HP.out k hlt] at q4
          clear q1 q2 q3
          go_wp2
          exact ⟨⟨k + 1, by go_num, by omega⟩, by simp [intOf]; omega⟩
        · obtain rfl : k = C.L.length := by omega
          go_wp2
          go_ret
          exact HE.out
    | some x =>
      obtain ⟨i, hx, hpin, hbef⟩ := free_at hf
      have HP := Lib.hid hbef
      obtain ⟨hil, hxe⟩ := List.getElem?_eq_some_iff.1 hx
      obtain ⟨g, rfl, hg⟩ := had (by omega)
      have HX := Lib.hid hx
      have HXE := Lib.hid hxe
      have hxb : x.b < C.st.n := h.ok.blk x (List.mem_of_getElem? hx)
      have hn := h.ok.st.hi
      have WO := Lib.hid fun wq (vq : Value) (Cq : CS) (hC : Cq.L = C.L) (hq : RC r d lo hi vq Cq wq) => (by
        have := rwithout_any i (by rw [hC]; exact hil) wq hq
        rw [hC] at this; exact this : Calls Tryz.prog 70 #[.pointer (some ⟨r, 0, none⟩), .int .i64 (i : Int)] wq fun e w' => ∃ ad m cp, e = .returned (.slice ad m cp) ∧ BufsAt wq.heap.size (.slice ad m cp) (C.L.take i ++ C.L.drop (i + 1)) w' ∧ Below wq.heap.size wq w')
      have hR : roomC C = if x.dirty = true then (if wCode C.st x.b x.data.size = 0 then (0, { C with st := wSt C.st x.b x.data, L := dropB C.L x.b }) else (wCode C.st x.b x.data.size, C)) else (0, { C with L := dropB C.L x.b }) := by
        unfold roomC; rw [if_neg hfull, hf]
      have HRC := Lib.hid hR
      have WR := Lib.hid fun w1 (h1 : RC r d lo hi (.slice (some ⟨g, 0, none⟩) C.L.length cap) C w1) => rwrite_any (x.b : Int) x.data ha w1 h1.dev
      clear h had hf hbef hx hxe hR
      go_enter Tryz.func71, Tryz.ntmps71
      go_wp2
      refine wp_region_quiet_below mixed (by kernel_rfl) ?_
      repeat (go_big_quiet_step (fail))
      refine wpQuiet_nil ?_
      intro w0q hw'
      obtain ⟨⟨wq, bq⟩, hw''⟩ := hw'
      have hw2 : wq = w0q := hw''.symm
      clear hw''
      subst hw2
      have H := Lib.hid (H.out.kept1 bq)
      have HB0 := Lib.hid bq
      have c0 := H.out.cells.1
      have c2 := H.out.cells.2.2
      have HR := Lib.hid H.out.row
      clear k1 k2 bq
      go_wp2
      go_loop [3] (fun q => ∃ k : Nat, q = .int .i64 k ∧ k ≤ i) (fun q => C.L.length - (intOf q).toNat)
      case atStart => exact ⟨0, rfl, Nat.zero_le _⟩
      case round =>
        obtain ⟨k, rfl, hk⟩ := hrel
        have hlt : k < C.L.length := by omega
        obtain ⟨q1, q2, q3, q4⟩ := buf_cells HR.out k hlt
        by_cases hki : k < i
        · rw [HP.out k hlt hki] at q4
          clear q1 q2 q3
          go_wp2
          exact ⟨⟨k + 1, by go_num, by omega⟩, by simp [intOf]; omega⟩
        · obtain rfl : k = i := by omega
          rw [HXE.out] at q1 q2 q3 q4
          rw [hpin] at q4
          cases hd : x.dirty with
          | false =>
            rw [hd] at q3
            have HR0 : Hid (roomC C = (0, { C with L := dropB C.L x.b })) := Lib.hid (by rw [HRC.out, hd]; rfl)
            have fz : ∀ w1, Below wq.heap.size wq w1 → w1.frozen? ⟨r, 2, none⟩ = false := fun w1 b => (H.out.blk.kept1 b).frozen 2
            have cz : ∀ w1, Below wq.heap.size wq w1 → w1.cell? ⟨r, 2, none⟩ = some (.slice (some ⟨g, 0, none⟩) C.L.length cap) := fun w1 b => (H.out.blk.kept1 b).cell 2
            clear HRC WR
            go_wp2_with fail
            refine (WO.out wq _ C rfl H.out).mono ?_; rintro e w1 ⟨av, m9, cv, rfl, hrow, b⟩
            have f1 := fz w1 b
            have z1 := cz w1 b
            have HZ := H.out.less HX.out hrow b
            have HE : Hid (RoomR r d lo hi (.slice (some ⟨g, 0, none⟩) C.L.length cap) C w (.returned (.int .i64 0)) (w1.setCell ⟨r, 2, none⟩ (.slice av m9 cv))) := Lib.hid (RoomR.from HB0.out ⟨_, by rw [HR0.out], by rw [HR0.out]; exact HZ.1, HZ.2⟩)
            clear q1 q2 q3 q4 c0 c2 hrow b fz cz HZ
            go_wp2
            go_ret
            exact HE.out
          | true =>
            rw [hd] at q3
            have HR0 : Hid (roomC C = if wCode C.st x.b x.data.size = 0 then (0, { C with st := wSt C.st x.b x.data, L := dropB C.L x.b }) else (wCode C.st x.b x.data.size, C)) := Lib.hid (by rw [HRC.out, hd]; rfl)
            have k0 : ∀ p : BelowP wq, p.to.cell? ⟨r, 0, none⟩ = some (.pointer (some ⟨d, 0, none⟩)) := fun p => (H.out.kept1 p.h).cells.1
            have k2 : ∀ p : BelowP wq, p.to.cell? ⟨r, 2, none⟩ = some (.slice (some ⟨g, 0, none⟩) C.L.length cap) := fun p => (H.out.kept1 p.h).cells.2.2
            have k4 : ∀ p : BelowP wq, p.to.cell? ⟨g, k * 4, none⟩ = some (.int .i64 (x.b : Int)) := fun p => by
              have := (buf_cells (H.out.kept1 p.h).row k hlt).1
              rw [HXE.out] at this; exact this
            have k5 : ∀ p : BelowP wq, p.to.cell? ⟨g, k * 4 + 1, none⟩ = some (.string x.data) := fun p => by
              have := (buf_cells (H.out.kept1 p.h).row k hlt).2.1
              rw [HXE.out] at this; exact this
            have HB1 := Lib.hid HB0.out
            clear HRC q1 q2 c0
            go_wp2
            refine wp_region_tail_below 20 mixed (by kernel_rfl) ?_
            simp only [List.take_succ_cons, List.take_zero, List.drop_succ_cons, List.drop_zero]
            repeat (go_big_quiet_step (fail))
            refine wpQuiet_nil ?_
            intro w0q hw'
            obtain ⟨⟨wq, bq⟩, hw''⟩ := hw'
            have hw2 : wq = w0q := hw''.symm
            clear hw''
            subst hw2
            have HN0 := Lib.hid (H.out.kept1 bq)
            have HBB := Lib.hid (bnext HB0.out bq)
            clear k0 k2 k4 k5 H HR HB0 HB1 bq c2 q3 q4
            go_wp2_with fail
            refine (WR.out _ HN0.out).mono ?_; rintro e w1 ⟨rfl, hdev, hz⟩
            have HN1 := Lib.hid (HN0.out.on hdev hz (wSt_n _ _ _))
            have HG1 := Lib.hid (Went.zone (M := MR r (.slice (some ⟨g, 0, none⟩) C.L.length cap)) hz)
            clear hdev hz WR
            by_cases hcode : wCode C.st x.b x.data.size = 0
            · have HR1 : Hid (roomC C = (0, { C with st := wSt C.st x.b x.data, L := dropB C.L x.b })) := Lib.hid (by rw [HR0.out, if_pos hcode])
              rw [hcode]
              have fz : ∀ w2, Below w1.heap.size w1 w2 → w2.frozen? ⟨r, 2, none⟩ = false := fun w2 b => (HN1.out.blk.kept1 b).frozen 2
              have cz : ∀ w2, Below w1.heap.size w1 w2 → w2.cell? ⟨r, 2, none⟩ = some (.slice (some ⟨g, 0, none⟩) C.L.length cap) := fun w2 b => (HN1.out.blk.kept1 b).cell 2
              clear HR0 hcode
              go_wp2_with fail
              refine (WO.out w1 _ (C.on (wSt C.st x.b x.data)) rfl HN1.out).mono ?_; rintro e w2 ⟨av, m9, cv, rfl, hrow, b⟩
              have f1 := fz w2 b
              have z2 := cz w2 b
              have HZ := HN1.out.less HX.out hrow b
              have HE : Hid (RoomR r d lo hi (.slice (some ⟨g, 0, none⟩) C.L.length cap) C w (.returned (.int .i64 0)) (w2.setCell ⟨r, 2, none⟩ (.slice av m9 cv))) := Lib.hid (RoomR.from HBB.out ⟨_, by rw [HR1.out], by rw [HR1.out]; exact HZ.1, HG1.out.trans HZ.2⟩)
              clear hrow b fz cz HZ
              go_wp2
              go_ret
              exact HE.out
            · have HR1 : Hid (roomC C = (wCode C.st x.b x.data.size, C)) := Lib.hid (by rw [HR0.out, if_neg hcode])
              have hs : wSt C.st x.b x.data = C.st := wSt_same hcode
              have t1 : (wCode C.st x.b x.data.size != 0) = true := by rw [bne_iff_ne]; exact hcode
              have HE : Hid (RoomR r d lo hi (.slice (some ⟨g, 0, none⟩) C.L.length cap) C w (.returned (.int .i64 (wCode C.st x.b x.data.size))) w1) := Lib.hid (RoomR.from HBB.out ⟨_, by rw [HR1.out], by
                rw [HR1.out]
                have := HN1.out
                rw [hs] at this
                exact this, HG1.out⟩)
              clear HR0 HR1 hs hcode
              generalize wCode C.st x.b x.data.size = code at *
              go_wp2
              go_ret
              exact HE.out
end Go.Proofs.YtehjobjjlldckaaGreat
