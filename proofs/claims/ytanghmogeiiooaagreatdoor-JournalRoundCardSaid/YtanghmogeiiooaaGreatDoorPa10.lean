import Derived.Test.YtanghmogeiiooaaGreatDoorPa01
import Derived.Test.YtanghmogeiiooaaGreatDoorPa09
import Derived.Test.YtanghmogeiiooaaGreatDoorPa04
import Derived.Deep.CutBlock
import Derived.Test.YtanghmogeiiooaaGreatDoorPa06
import Derived.Test.YtanghmogeiiooaaGreatDoorPa08
import Derived.Maps.OwnOps
import Derived.Maps.OwnSet
set_option linter.unusedVariables false
set_option linter.unusedSimpArgs false
set_option linter.constructorNameAsVariable false
/- append of one element to a row in a field, one way or the other: where it lay, or in a new block. For whatever program. -/
namespace Go.Proofs.YtanghmogeiiooaaGreatDoor
set_option linter.unusedVariables false
open Go.RowKit

/-- where an appended row lies: where it lay, or in a block that is new -/
def Stays (v v' : Value) (B : Nat) : Prop := v'.ownBlock = v.ownBlock ∨ ∀ k, v'.ownBlock = some k → B ≤ k
theorem push_run (w : World) (base : Nat) (T e : TypeId) (ty : TypeId) (z : Value) (bytes : Nat) (ht : Tryz.prog.underlying T = some (.slice e)) (hi : (Tryz.prog.info? e).map (fun i => (i.zero, i.size, i.bytes)) = some (some z, 1, bytes)) (hzs : z.cells.size = 1) (hby : bytes ≤ 16)
    (v : Value) (n : Nat) (xs : List Value) (hn : n ≤ 4096) (hown : w.ownsRow base e 1 v n xs) (W : World) (u : Value) (hW : w = W.alloc (.cells #[u] e)) (hu : u.oneCell' = true) (hbase : base ≤ w.heap.size) :
    ∃ v' w', (Builtin.append_ #[T, T] ty #[v, .slice (some ⟨W.heap.size, 0, none⟩) 1 1]).run Tryz.prog w = .ok v' w' ∧ w'.ownsRow base e 1 v' (n + 1) (xs ++ [u]) ∧ w.grownBy w' v.ownBlock ∧ Stays v v' w.heap.size := by
  obtain ⟨i, hi0, hz0, hs0, hb0⟩ := info_parts hi
  have hnews : ∀ j x, [u][j]? = some x → w.cell? ((⟨W.heap.size, 0, none⟩ : Addr).add j) = some x := by
    subst hW
    intro j x hj
    rw [add_at, Nat.zero_add, World.cell?_alloc_mark]
    simpa using hj
  have h1 : ∀ x ∈ [u], x.oneCell' = true := fun x hx => by rw [List.mem_singleton] at hx; subst hx; exact hu
  have hbyt : (n + 1) * bytes ≤ 140737488355328 := by
    have : (n + 1) * bytes ≤ 4097 * 16 := Nat.mul_le_mul (by omega) hby
    omega
  have R := fun b (hb : b ≤ w.heap.size) (ho : w.ownsRow b e 1 v n xs) => run_append_own (P := Tryz.prog) w b T ty e i z 1 bytes ht hi0 hz0 hs0 hb0 hzs (by decide) v n xs ho ⟨W.heap.size, 0, none⟩ 1 1 [u] rfl hnews h1 (by unfold maxLen; omega) hbyt hb
  obtain ⟨v', w', hr, h2, h3, _⟩ := R base hbase hown
  refine ⟨v', w', hr, h2, h3, ?_⟩
  rcases hown.2 with ⟨rfl, rfl⟩ | ⟨g, cap, cur, rfl, hbg, hg, hnc, hcm, hcs, htake⟩
  · have hx : xs = [] := List.eq_nil_of_length_eq_zero (by simpa using hown.1)
    subst hx
    obtain ⟨v2, w2, hr2, k2, _, _⟩ := R w.heap.size (Nat.le_refl _) (World.ownsRow_nil _ _ _ _)
    rw [hr] at hr2
    obtain ⟨rfl, rfl⟩ : v' = v2 ∧ w' = w2 := by injection hr2 with a b; exact ⟨a, b⟩
    exact .inr fun k hk => (k2.lt k hk).1
  · by_cases hroom : n + 1 ≤ cap
    · obtain ⟨w2, hr2, _, _⟩ := run_append_fits (P := Tryz.prog) w base T ty e i 1 ht hi0 hs0 g n cap xs hown ⟨W.heap.size, 0, none⟩ 1 1 [u] rfl hnews h1 hroom
      rw [hr] at hr2
      injection hr2 with a b
      subst a
      exact .inl rfl
    · have hr2 := run_append_grow (P := Tryz.prog) w T ty e i z ht hi0 hz0 ⟨g, 0, none⟩ n cap xs (by rw [hs0]; exact hown.1) (hown.cells (g := g) rfl) ⟨W.heap.size, 0, none⟩ 1 1 [u] (by rw [hs0]; rfl) hnews (by omega) (by omega) (growslice_fits (by omega) (by rw [hb0]; exact hbyt))
      rw [hr] at hr2
      injection hr2 with a b
      subst a
      exact .inr fun k hk => by
        have : some w.heap.size = some k := hk
        injection this with h; omega
theorem wpList_push {ops : Array Oper} {rest : List Oper} {o : Oper} {a : Act} {Q : Exit → Act → World → Prop} {w : World} (hgd : o.guard = none) (s x : Operand) (T e : TypeId)
    (ho : o.op = .call { callee := .builtin .append, args := #[s, x], argTypes := #[T, T] })
    (base : Nat) (z : Value) (bytes : Nat) (ht : Tryz.prog.underlying T = some (.slice e)) (hi : (Tryz.prog.info? e).map (fun i => (i.zero, i.size, i.bytes)) = some (some z, 1, bytes)) (hzs : z.cells.size = 1) (hby : bytes ≤ 16)
    (v : Value) (n : Nat) (xs : List Value) (hs : a.eval s = v) (hn : n ≤ 4096) (hown : w.ownsRow base e 1 v n xs) (W : World) (u : Value) (hW : w = W.alloc (.cells #[u] e)) (hh : Nat) (hhe : Hid (W.heap.size = hh)) (hx : a.eval x = .slice (some ⟨hh, 0, none⟩) 1 1) (hu : u.oneCell' = true) (hbase : base ≤ w.heap.size) (B : Nat) (hB : Hid (w.heap.size = B))
    (h : ∀ v' w', w'.ownsRow base e 1 v' (n + 1) (xs ++ [u]) → w.grownBy w' v.ownBlock → Stays v v' B → wpList Tryz.prog ops Q rest (a.put o.dst v') w') : wpList Tryz.prog ops Q (o :: rest) a w := by
  refine wpList_plain hgd fun K hK => ?_
  have hhe := hhe.out
  subst hhe
  obtain ⟨v', w', hr, h2, h3, h4⟩ := push_run w base T e o.type z bytes ht hi hzs hby v n xs hn hown W u hW hu hbase
  unfold Oper.wp execOp
  simp only [ho, resolve, invoke, builtin, Sem.run_bind, Sem.run_pure, Result.andThen_ok, List.map_toArray, List.map_cons, List.map_nil, hs, hx, hr]
  have hB := hB.out
  subst hB
  exact hK _ _ (h v' w' h2 h3 h4)

end Go.Proofs.YtanghmogeiiooaaGreatDoor

/- write: changes, made into an act. -/
namespace Go.Proofs.YtanghmogeiiooaaGreatDoor
set_option linter.unusedVariables false
open Go.RowKit

abbrev chgC (c : Int × ByteArray) : Array Value := #[.int .i64 c.1, .string c.2]
def chgsL (L : List (Int × ByteArray)) : List Value := L.flatMap fun c => [Value.int .i64 c.1, Value.string c.2]
theorem chgsL_length (L : List (Int × ByteArray)) : (chgsL L).length = L.length * 2 := by
  induction L with
  | nil => rfl
  | cons c L ih => show ([_, _] ++ chgsL L).length = _; rw [List.length_append, ih, List.length_cons]; simp; omega
theorem chgsL_append (L M : List (Int × ByteArray)) : chgsL (L ++ M) = chgsL L ++ chgsL M := by unfold chgsL; rw [List.flatMap_append]
theorem chgsL_at : ∀ (L : List (Int × ByteArray)) (k : Nat) (hk : k < L.length), (chgsL L)[2 * k]? = some (.int .i64 L[k].1) ∧ (chgsL L)[2 * k + 1]? = some (.string L[k].2)
  | c :: L, 0, _ => ⟨rfl, rfl⟩
  | c :: L, k + 1, hk => by
    have := chgsL_at L k (by simpa using hk)
    exact ⟨this.1, this.2⟩
/-- v is a slice of changes, wherever it lies -/
abbrev ChgsIn (v : Value) (L : List (Int × ByteArray)) (w : World) : Prop := RowIn 2 v L.length (chgsL L) w
/-- its shape, and its cells -/
theorem ChgsIn.open {v : Value} {L : List (Int × ByteArray)} {w : World} (h : ChgsIn v L w) : ∃ ad cap, v = .slice ad L.length cap ∧ L.length ≤ cap ∧ cap ≤ 9223372036854775807 ∧
    (0 < L.length → ∃ g o, ad = some ⟨g, o, none⟩ ∧ g < w.heap.size ∧ ∀ k (hk : k < L.length), w.cell? ⟨g, o + k * 2, none⟩ = some (.int .i64 L[k].1) ∧ w.cell? ⟨g, o + k * 2 + 1, none⟩ = some (.string L[k].2)) := by
  obtain ⟨ad, cap, e, h1, h2, h3, -⟩ := h.shape
  refine ⟨ad, cap, e, h1, h2, fun hp => ?_⟩
  obtain ⟨g, o, e2, hg, hc⟩ := h3 (by rw [chgsL_length]; omega)
  refine ⟨g, o, e2, hg, fun k hk => ?_⟩
  have := chgsL_at L k hk
  exact ⟨by rw [show o + k * 2 = o + 2 * k by omega]; exact hc _ _ this.1, by rw [show o + k * 2 + 1 = o + (2 * k + 1) by omega]; exact hc _ _ this.2⟩
theorem blk_grown {g : Nat} {cs : Array Value} {T e : TypeId} {w w2 : World} {B n : Nat} {v : Value} {xs : List Value} {z : Nat} (h : Blk g cs T w) (ho : w.ownsRow B e z v n xs) (hT : T ≠ e) (hg : w.grownBy w2 v.ownBlock) : Blk g cs T w2 := by
  refine (hg.block g h.lt fun hk => ?_).trans h
  rcases ho.2 with ⟨rfl, -⟩ | ⟨g', cap, cur, rfl, -, hcur, -⟩
  · cases hk
  · have e1 : g = g' := by injection hk
    subst e1
    have h' : w.heap[g]? = some (.cells cs T (0, 0)) := h
    rw [h'] at hcur
    injection hcur with q
    injection q with q1 q2
    exact hT q2
theorem act_info : (Tryz.prog.info? 95).map (fun i => (i.zero, i.size, i.bytes)) = some (some .nilFunc, 1, 8) := by kernel_rfl
abbrev cloV (rb cb : Nat) : Value := .func (.func 63) #[] #[.pointer (some ⟨rb, 0, none⟩), .pointer (some ⟨cb, 0, none⟩)]
/-- what write's own memory holds, k changes having been taken -/
structure WMem (w0 : World) (d : Nat) (b l i la ma ml ta tl da : Int) (L : List (Int × ByteArray)) (k : Nat) (v : Value) (cbs : List Nat) (w : World) : Prop where
  len : cbs.length = k
  cell : Blk (w0.heap.size + 1) #[v] 125 w
  row : w.ownsRow (w0.heap.size + 2) 95 1 v k (cbs.map (cloV w0.heap.size))
  at_ : ∀ j (hj : j < k) (hl : j < L.length), ∃ cb, cbs[j]? = some cb ∧ w0.heap.size + 2 ≤ cb ∧ Blk cb (chgC L[j]) 61 w
  ring : RingAt w0.heap.size (some ⟨d, 0, none⟩) b l i la ma ml ta tl da w
  below : Below w0.heap.size w0 w
theorem WMem.alloc {w0 : World} {d : Nat} {b l i la ma ml ta tl da : Int} {L : List (Int × ByteArray)} {k : Nat} {v : Value} {cbs : List Nat} {w : World} (h : WMem w0 d b l i la ma ml ta tl da L k v cbs w) (o : Obj) : WMem w0 d b l i la ma ml ta tl da L k v cbs (w.alloc o) := by
  have hb := balloc1 w o
  exact ⟨h.len, h.cell.kept1 hb, row_kept h.row hb, fun j hj hl => by obtain ⟨cb, h1, h2, h3⟩ := h.at_ j hj hl; exact ⟨cb, h1, h2, h3.kept1 hb⟩, h.ring.kept1 hb, balloc h.below o⟩
/-- one more -/
theorem WMem.more {w0 : World} {d : Nat} {b l i la ma ml ta tl da : Int} {L : List (Int × ByteArray)} {k cb : Nat} {v v' : Value} {cbs : List Nat} {w w2 : World} (h : WMem w0 d b l i la ma ml ta tl da L k v cbs w)
    (hk : k < L.length) (hcb : w0.heap.size + 2 ≤ cb) (hc : Blk cb (chgC L[k]) 61 w) (hr : w2.ownsRow (w0.heap.size + 2) 95 1 v' (k + 1) (cbs.map (cloV w0.heap.size) ++ [cloV w0.heap.size cb])) (hg : w.grownBy w2 v.ownBlock) :
    WMem w0 d b l i la ma ml ta tl da L (k + 1) v' (cbs ++ [cb]) (w2.setCell ⟨w0.heap.size + 1, 0, none⟩ v') := by
  have hne : ∀ g, g < w0.heap.size + 2 → some g ≠ v.ownBlock := fun g hg2 e => by have := (h.row.lt g e.symm).1; omega
  have hne' : v'.ownBlock ≠ some (w0.heap.size + 1) := fun e => by have := (hr.lt _ e).1; omega
  have k1 : ∀ {g : Nat} {cs : Array Value}, Blk g cs 61 w → w0.heap.size + 2 ≤ g → Blk g cs 61 (w2.setCell ⟨w0.heap.size + 1, 0, none⟩ v') := fun hB hg2 =>
    (blk_grown hB h.row (by decide) hg).other (by show w0.heap.size + 1 ≠ _; omega) _
  have hcell : Blk (w0.heap.size + 1) #[v] 125 w2 := (hg.block _ h.cell.lt (hne _ (by omega))).trans h.cell
  have hring : RingAt w0.heap.size (some ⟨d, 0, none⟩) b l i la ma ml ta tl da w2 := (hg.block _ h.ring.lt (hne _ (by omega))).trans h.ring
  refine ⟨by rw [List.length_append, h.len]; rfl, ?_, ?_, ?_, ?_, ?_⟩
  · have := hcell.set 0 v'; simpa using this
  · rw [List.map_append]
    refine ⟨hr.1, hr.2.imp id fun ⟨g, cap, cur, a1, a2, a3, a4⟩ => ⟨g, cap, cur, a1, a2, ?_, a4⟩⟩
    exact (Below.heap_setCell w2 _ v' g (by show g ≠ w0.heap.size + 1; omega)).trans a3
  · intro j hj hl
    by_cases e : j = k
    · subst e
      exact ⟨cb, by rw [List.getElem?_append_right (by rw [h.len]; exact Nat.le_refl _), h.len]; simp, hcb, k1 hc hcb⟩
    · obtain ⟨cb', q1, q2, q3⟩ := h.at_ j (by omega) hl
      exact ⟨cb', by rw [List.getElem?_append_left (by rw [h.len]; omega)]; exact q1, q2, k1 q3 q2⟩
  · exact (Below.heap_setCell w2 _ v' _ (by show w0.heap.size ≠ w0.heap.size + 1; omega)).trans hring
  · have hb2 : Below w0.heap.size w w2 := ⟨hg.os, hg.tape, hg.output, hg.size, fun j hj => hg.block j (by have := h.ring.lt; omega) (hne j (by omega))⟩
    exact (h.below.trans hb2).setCell (by show w0.heap.size ≤ w0.heap.size + 1; omega) _
theorem singles {α β : Type} (f : α → β) (L : List α) : L.map f = (L.map fun c => [f c]).flatten := by
  induction L with
  | nil => rfl
  | cons c L ih => rw [List.map_cons, List.map_cons, List.flatten_cons, ← ih]; rfl
/-- at the end -/
theorem WMem.does {w0 : World} {d lo hi : Nat} {b l i la ma ml ta tl da : Int} {L : List (Int × ByteArray)} {v : Value} {cbs : List Nat} {w : World} (h : WMem w0 d b l i la ma ml ta tl da L L.length v cbs w) (hhi : hi ≤ w0.heap.size) :
    Does d lo hi 64 #[.pointer (some ⟨w0.heap.size + 1, 0, none⟩)] (L.map fun c => Deed.write c.1 c.2) w := by
  rw [singles]
  refine clo_all w h.cell (.inr (by omega)) ?_
  obtain ⟨ad, cap, rfl, h1, h2, h3⟩ := shape_of h.row
  refine ⟨ad, cap, by rw [List.length_map], by rw [List.length_map]; exact h1, by unfold maxLen at h2; omega, fun hp => ?_⟩
  rw [List.length_map] at hp
  obtain ⟨g, rfl, hg1, hg2⟩ := h3 hp
  refine ⟨g, 0, rfl, hg2, .inr (by omega), fun k hk => ?_⟩
  rw [List.length_map] at hk
  obtain ⟨cb, q1, q2, q3⟩ := h.at_ k hk hk
  refine ⟨63, #[.pointer (some ⟨w0.heap.size, 0, none⟩), .pointer (some ⟨cb, 0, none⟩)], ?_, ?_⟩
  · rw [Nat.zero_add, h.row.cellAt k (by omega), List.getElem?_map, q1]; rfl
  · rw [List.getElem_map]
    exact clo_write w h.ring (.inr hhi) q3 (.inr (by omega))
set_option maxRecDepth 100000 in
set_option maxHeartbeats 4000000 in
theorem jwrite_any (d : Nat) (b l i la ma ml ta tl da : Int) (L : List (Int × ByteArray)) (hL : L.length ≤ 4000) (v : Value) (lo hi : Nat) (w : World) (hhi : hi ≤ w.heap.size) (hv : ChgsIn v L w) :
    Calls Tryz.prog 38 #[ringV (some ⟨d, 0, none⟩) b l i la ma ml ta tl da, v] w fun e w' =>
      e = .returned (.func (.func 64) #[] #[.pointer (some ⟨w.heap.size + 1, 0, none⟩)]) ∧ Does d lo hi 64 #[.pointer (some ⟨w.heap.size + 1, 0, none⟩)] (L.map fun c => Deed.write c.1 c.2) w' ∧ Below w.heap.size w w' := by
  obtain ⟨ad, cap, rfl, h1, h2, h3⟩ := hv.open
  have H3 := Lib.hid h3
  clear h3
  obtain ⟨w1, hw1⟩ : ∃ w1, w.alloc (.cells (ringC (some ⟨d, 0, none⟩) b l i la ma ml ta tl da) 87) = w1 := ⟨_, rfl⟩
  obtain ⟨w2, hw2⟩ : ∃ w2, w1.alloc (.cells #[.slice none 0 0] 125) = w2 := ⟨_, rfl⟩
  have hz1 : w1.heap.size = w.heap.size + 1 := by rw [← hw1, size_alloc]
  have M0 : WMem w d b l i la ma ml ta tl da L 0 (.slice none 0 0) [] w2 := by
    refine ⟨rfl, ?_, World.ownsRow_nil _ _ _ _, fun j hj => by omega, ?_, ?_⟩
    · rw [← hw2, ← hz1]; exact Blk.new _ _ _
    · rw [← hw2]; exact RingAt.kept1 (by rw [← hw1]; exact RingAt.new _ _ _ _ _ _ _ _ _ _ _) (balloc1 _ _)
    · rw [← hw2]; exact balloc (by rw [← hw1]; exact balloc1 _ _) _
  have HM0 := Lib.hid M0
  have HI := Lib.hid act_info
  clear M0 hv
  go_enter Tryz.func38, Tryz.ntmps38
  go_wp2
  go_loopw [10] (fun q wr => ∃ (k : Nat) (v : Value) (cbs : List Nat), q = .int .i64 k ∧ k ≤ L.length ∧ WMem w d b l i la ma ml ta tl da L k v cbs wr) (fun q _ => L.length - (intOf q).toNat)
  case atStart => exact ⟨0, _, [], rfl, Nat.zero_le _, HM0.out⟩
  case round =>
    clear HM0 hw1 hw2 hz1
    obtain ⟨k, v, cbs, rfl, hk, M⟩ := hrel
    by_cases hlt : k < L.length
    · obtain ⟨g, o, rfl, hg, hc⟩ := H3.out (by omega)
      obtain ⟨c0, c1⟩ := hc k hlt
      have c0 := (M.below.cell (p := ⟨g, o + k * 2, none⟩) hg).trans c0
      have c1 := (M.below.cell (p := ⟨g, o + k * 2 + 1, none⟩) hg).trans c1
      obtain ⟨ad', cap', rfl, -⟩ := shape_of M.row
      have hcb : w.heap.size + 2 ≤ wr.heap.size := by have := M.cell.lt; omega
      obtain ⟨w3, hw3⟩ : ∃ w3, wr.alloc (.cells #[.int .i64 L[k].1, .string L[k].2] 61) = w3 := ⟨_, rfl⟩
      have hz3 : w3.heap.size = wr.heap.size + 1 := by rw [← hw3, size_alloc]
      have M3 : WMem w d b l i la ma ml ta tl da L k (.slice ad' k cap') cbs w3 := by rw [← hw3]; exact M.alloc _
      have B3 : Blk wr.heap.size (chgC L[k]) 61 w3 := by rw [← hw3]; exact Blk.new _ _ _
      have M4 : WMem w d b l i la ma ml ta tl da L k (.slice ad' k cap') cbs (w3.alloc (.cells #[cloV w.heap.size wr.heap.size] 95)) := M3.alloc _
      have B4 : Blk wr.heap.size (chgC L[k]) 61 (w3.alloc (.cells #[cloV w.heap.size wr.heap.size] 95)) := B3.kept1 (balloc1 _ _)
      have HB : Hid ((w3.alloc (.cells #[cloV w.heap.size wr.heap.size] 95)).heap.size = w3.heap.size + 1) := Lib.hid (size_alloc _ _)
      have s0 := M3.cell.cell 0
      simp at s0
      have HM4 := Lib.hid M4
      have HB4 := Lib.hid B4
      have HHE : Hid (w3.heap.size = wr.heap.size + 1) := Lib.hid hz3
      have HROW := Lib.hid M4.row
      clear M M3 B3 M4 B4 hc H3
      go_wp2_with (at_builtin; refine wpList_push rfl _ _ 125 95 rfl (w.heap.size + 2) .nilFunc 8 Tryz.underlying125 act_info rfl (by decide) _ _ _ rfl (by omega) HROW.out w3 (cloV w.heap.size wr.heap.size) rfl (wr.heap.size + 1) HHE rfl rfl (by rw [size_alloc]; omega) (w3.heap.size + 1) HB ?_)
      intro v' w5 hr5 hg5 _
      obtain ⟨ad5, cap5, rfl, -⟩ := shape_of hr5
      have HN := Lib.hid (HM4.out.more hlt hcb HB4.out hr5 hg5)
      have hc5 : w5.cell? ⟨w.heap.size + 1, 0, none⟩ = some (.slice ad' k cap') := by
        have hne : some (w.heap.size + 1) ≠ (Value.slice ad' k cap').ownBlock := fun e => by have := (HROW.out.lt _ e.symm).1; omega
        have := HM4.out.cell
        have h5 : Blk (w.heap.size + 1) #[.slice ad' k cap'] 125 w5 := (hg5.block _ this.lt hne).trans this
        exact h5.cell 0
      have hf5 : w5.frozen? ⟨w.heap.size + 1, 0, none⟩ = false := by
        have hne : some (w.heap.size + 1) ≠ (Value.slice ad' k cap').ownBlock := fun e => by have := (HROW.out.lt _ e.symm).1; omega
        have := HM4.out.cell
        have h5 : Blk (w.heap.size + 1) #[.slice ad' k cap'] 125 w5 := (hg5.block _ this.lt hne).trans this
        exact h5.frozen 0
      clear HROW HB HB4 HM4 HHE hr5 hg5 s0 c0 c1 hw3 hz3
      go_wp2
      exact ⟨⟨k + 1, _, _, by go_num, by omega, HN.out⟩, by simp [intOf]; omega⟩
    · obtain rfl : k = L.length := by omega
      have D := Lib.hid (M.does (lo := lo) hhi)
      have hB := M.below
      clear M H3
      go_wp2
      go_ret
      exact ⟨rfl, D.out, hB⟩
end Go.Proofs.YtanghmogeiiooaaGreatDoor

/- blank, valid. -/
namespace Go.Proofs.YtanghmogeiiooaaGreatDoor
set_option linter.unusedVariables false
open Go.RowKit

def Blank (pos : Int) (nh nm sum : Nat) : Prop := pos = 0 ∧ nh = 0 ∧ nm = 0 ∧ sum = 0
instance (pos : Int) (nh nm sum : Nat) : Decidable (Blank pos nh nm sum) := by unfold Blank; infer_instance
set_option maxHeartbeats 2000000 in
theorem blank_any (kind pos : Int) (seq sum nh nm ch cm : Nat) (ah am : Option Addr) (w : World) :
    Calls Tryz.prog 136 #[.agg #[.int .i64 kind, .int .u64 (seq : Int), .int .i64 pos, .slice ah nh ch, .slice am nm cm, .int .u32 (sum : Int)]] w fun e w' => e = .returned (.bool (decide (Blank pos nh nm sum))) ∧ Below w.heap.size w w' := by
  have hb := balloc1 w (.cells #[.int .i64 kind, .int .u64 (seq : Int), .int .i64 pos, .slice ah nh ch, .slice am nm cm, .int .u32 (sum : Int)] 134)
  have gh : Tryz.prog.stoodInHeld 134 = false := by kernel_rfl
  by_cases h1 : pos = 0
  · subst h1
    by_cases h2 : nh = 0
    · subst h2
      by_cases h3 : nm = 0
      · subst h3
        by_cases h4 : sum = 0
        · subst h4
          go_enter Tryz.func136, Tryz.ntmps136
          go_wp2
          go_ret
          exact ⟨rfl, hb⟩
        · have HE : Hid (decide (Blank 0 0 0 sum) = false) := Lib.hid (by rw [decide_eq_false_iff_not]; exact fun h => h4 h.2.2.2)
          have d : ((sum : Int) == 0) = false := by rw [beq_eq_false_iff_ne]; omega
          go_enter Tryz.func136, Tryz.ntmps136
          go_wp2
          go_ret
          exact ⟨ret_bool (by rw [HE.out]), hb⟩
      · have HE : Hid (decide (Blank 0 0 nm sum) = false) := Lib.hid (by rw [decide_eq_false_iff_not]; exact fun h => h3 h.2.2.1)
        have d : ((nm : Int) == 0) = false := by rw [beq_eq_false_iff_ne]; omega
        go_enter Tryz.func136, Tryz.ntmps136
        go_wp2
        go_ret
        exact ⟨ret_bool (by rw [HE.out]), hb⟩
    · have HE : Hid (decide (Blank 0 nh nm sum) = false) := Lib.hid (by rw [decide_eq_false_iff_not]; exact fun h => h2 h.2.1)
      have d : ((nh : Int) == 0) = false := by rw [beq_eq_false_iff_ne]; omega
      go_enter Tryz.func136, Tryz.ntmps136
      go_wp2
      go_ret
      exact ⟨ret_bool (by rw [HE.out]), hb⟩
  · have HE : Hid (decide (Blank pos nh nm sum) = false) := Lib.hid (by rw [decide_eq_false_iff_not]; exact fun h => h1 h.1)
    have d : (pos == 0) = false := by rw [beq_eq_false_iff_ne]; omega
    go_enter Tryz.func136, Tryz.ntmps136
    go_wp2
    go_ret
    exact ⟨ret_bool (by rw [HE.out]), hb⟩

/-- valid's end: what it says is that the fields of the kind may be, and that all others are blank -/
theorem ok_1 {r : Rec} (h : r.kind = 1) : RecOk r ↔ (0 ≤ r.pos ∧ r.pos ≤ 510) ∧ Blank 0 r.homes.length r.masked.length r.sum := by
  unfold RecOk Ok1 Ok2 Ok3 Ok4 Blank; simp [h, and_assoc]
theorem ok_2 {r : Rec} (h : r.kind = 2) : RecOk r ↔ (HomesOk r.homes 24 ∧ r.masked.length = r.homes.length) ∧ Blank r.pos 0 0 r.sum := by
  unfold RecOk Ok1 Ok2 Ok3 Ok4 Blank; simp [h]; exact ⟨fun ⟨a, b, c, d⟩ => ⟨⟨a, b⟩, c, d⟩, fun ⟨⟨a, b⟩, c, d⟩ => ⟨a, b, c, d⟩⟩
theorem ok_3 {r : Rec} (h : r.kind = 3) : RecOk r ↔ HomesOk r.homes 28 ∧ Blank r.pos 0 r.masked.length r.sum := by
  unfold RecOk Ok1 Ok2 Ok3 Ok4 Blank; simp [h]; intro _; exact ⟨fun ⟨b, c, d⟩ => ⟨c, b, d⟩, fun ⟨c, b, d⟩ => ⟨b, c, d⟩⟩
theorem ok_4 {r : Rec} (h : r.kind = 4) : RecOk r ↔ Blank r.pos r.homes.length r.masked.length 0 := by
  unfold RecOk Ok1 Ok2 Ok3 Ok4 Blank; simp [h]
theorem ok_no {r : Rec} (h1 : r.kind ≠ 1) (h2 : r.kind ≠ 2) (h3 : r.kind ≠ 3) (h4 : r.kind ≠ 4) : ¬ RecOk r := by
  rintro (h | h | h | h)
  · exact h1 h.1
  · exact h2 h.1
  · exact h3 h.1
  · exact h4 h.1
theorem dec_iff {p q : Prop} [Decidable p] [Decidable q] (h : p ↔ q) : decide p = decide q := by
  by_cases hp : p
  · rw [decide_eq_true hp, decide_eq_true (h.1 hp)]
  · rw [decide_eq_false hp, decide_eq_false fun k => hp (h.2 k)]

set_option maxHeartbeats 4000000 in
theorem valid_rec (r : Rec) (f : Fits r) (vh vm : Value) (w : World) (h : RecIn r vh vm w) :
    Calls Tryz.prog 116 #[recV r vh vm] w fun e w' => e = .returned (.bool (decide (RecOk r))) ∧ Below w.heap.size w w' := by
  obtain ⟨⟨-, ah, ch, rfl, -⟩, ⟨-, am, cm, rfl, -⟩⟩ := id h
  have gh : Tryz.prog.stoodInHeld 134 = false := by kernel_rfl
  have hfp := f.pos
  have BL := fun kind pos seq sum nh nm ch cm ah am w => Lib.hid (blank_any kind pos seq sum nh nm ch cm ah am w)
  have VH := fun (most : Int) (hm : I64 most) (w' : World) (hw : Below w.heap.size w w') => Lib.hid (vhomes_any r.homes most hm f.homes (.slice ah r.homes.length ch) w' (h.1.kept hw))
  have hd := ok_no (r := r)
  by_cases k1 : r.kind = 1
  · rw [dec_iff (ok_1 k1)]
    clear hd
    obtain ⟨kind, seq, pos, homes, masked, sum⟩ := r
    dsimp only at *
    subst k1
    have B := BL 1 0 seq sum homes.length masked.length ch cm ah am
    clear h BL VH f
    by_cases p1 : 0 ≤ pos
    · by_cases p2 : pos ≤ 510
      · have HE : Hid (decide ((0 ≤ pos ∧ pos ≤ 510) ∧ Blank 0 homes.length masked.length sum) = decide (Blank 0 homes.length masked.length sum)) := Lib.hid (dec_iff ⟨fun h => h.2, fun h => ⟨⟨p1, p2⟩, h⟩⟩)
        generalize decide (Blank 0 homes.length masked.length sum) = bl at *
        rw [HE.out]; clear HE
        go_enter Tryz.func116, Tryz.ntmps116
        go_wp2_with (go_at_call 136; refine ((B _).out).mono ?_; rintro e w1 ⟨rfl, hb⟩)
        go_ret
        exact ⟨rfl, below_boxed (below_boxed hb)⟩
      · have HE : Hid (decide ((0 ≤ pos ∧ pos ≤ 510) ∧ Blank 0 homes.length masked.length sum) = false) := Lib.hid (by rw [decide_eq_false_iff_not]; exact fun h => p2 h.1.2)
        clear B
        rw [HE.out]; clear HE
        go_enter Tryz.func116, Tryz.ntmps116
        go_wp2
        go_ret
        exact ⟨rfl, balloc (balloc1 _ _) _⟩
    · have HE : Hid (decide ((0 ≤ pos ∧ pos ≤ 510) ∧ Blank 0 homes.length masked.length sum) = false) := Lib.hid (by rw [decide_eq_false_iff_not]; exact fun h => p1 h.1.1)
      clear B
      rw [HE.out]; clear HE
      go_enter Tryz.func116, Tryz.ntmps116
      go_wp2
      go_ret
      exact ⟨rfl, balloc (balloc1 _ _) _⟩
  · by_cases k2 : r.kind = 2
    · rw [dec_iff (ok_2 k2)]
      clear hd k1
      obtain ⟨kind, seq, pos, homes, masked, sum⟩ := r
      dsimp only at *
      subst k2
      have B := BL 2 pos seq sum 0 0 0 0 none none
      have V := VH 24 (by omega)
      clear h BL VH f
      by_cases p1 : HomesOk homes 24
      · rw [decide_eq_true p1] at V
        by_cases p2 : masked.length = homes.length
        · have HE : Hid (decide ((HomesOk homes 24 ∧ masked.length = homes.length) ∧ Blank pos 0 0 sum) = decide (Blank pos 0 0 sum)) := Lib.hid (dec_iff ⟨fun h => h.2, fun h => ⟨⟨p1, p2⟩, h⟩⟩)
          have d : ((masked.length : Int) == (homes.length : Int)) = true := by rw [beq_iff_eq]; omega
          generalize decide (Blank pos 0 0 sum) = bl at *
          clear p2
          rw [HE.out]; clear HE
          go_enter Tryz.func116, Tryz.ntmps116
          go_wp2_with (first | (go_at_call 136; refine ((B _).out).mono ?_; rintro e w1 ⟨rfl, hb⟩) | (go_at_call 135; refine ((V _ (balloc (balloc1 _ _) _)).out).mono ?_; rintro e w1 ⟨rfl, rfl⟩))
          go_ret
          exact ⟨rfl, below_boxed (below_boxed hb)⟩
        · have HE : Hid (decide ((HomesOk homes 24 ∧ masked.length = homes.length) ∧ Blank pos 0 0 sum) = false) := Lib.hid (by rw [decide_eq_false_iff_not]; exact fun h => p2 h.1.2)
          have d : ((masked.length : Int) == (homes.length : Int)) = false := by rw [beq_eq_false_iff_ne]; omega
          clear B p2
          rw [HE.out]; clear HE
          go_enter Tryz.func116, Tryz.ntmps116
          go_wp2_with (go_at_call 135; refine ((V _ (balloc (balloc1 _ _) _)).out).mono ?_; rintro e w1 ⟨rfl, rfl⟩)
          go_ret
          exact ⟨rfl, balloc (balloc1 _ _) _⟩
      · rw [decide_eq_false p1] at V
        have HE : Hid (decide ((HomesOk homes 24 ∧ masked.length = homes.length) ∧ Blank pos 0 0 sum) = false) := Lib.hid (by rw [decide_eq_false_iff_not]; exact fun h => p1 h.1.1)
        clear B
        rw [HE.out]; clear HE
        go_enter Tryz.func116, Tryz.ntmps116
        go_wp2_with (go_at_call 135; refine ((V _ (balloc (balloc1 _ _) _)).out).mono ?_; rintro e w1 ⟨rfl, rfl⟩)
        go_ret
        exact ⟨rfl, balloc (balloc1 _ _) _⟩
    · by_cases k3 : r.kind = 3
      · rw [dec_iff (ok_3 k3)]
        clear hd k1 k2
        obtain ⟨kind, seq, pos, homes, masked, sum⟩ := r
        dsimp only at *
        subst k3
        have B := BL 3 pos seq sum 0 masked.length 0 cm none am
        have V := VH 28 (by omega)
        clear h BL VH f
        by_cases p1 : HomesOk homes 28
        · rw [decide_eq_true p1] at V
          have HE : Hid (decide (HomesOk homes 28 ∧ Blank pos 0 masked.length sum) = decide (Blank pos 0 masked.length sum)) := Lib.hid (dec_iff ⟨fun h => h.2, fun h => ⟨p1, h⟩⟩)
          generalize decide (Blank pos 0 masked.length sum) = bl at *
          rw [HE.out]; clear HE
          go_enter Tryz.func116, Tryz.ntmps116
          go_wp2_with (first | (go_at_call 136; refine ((B _).out).mono ?_; rintro e w1 ⟨rfl, hb⟩) | (go_at_call 135; refine ((V _ (balloc (balloc1 _ _) _)).out).mono ?_; rintro e w1 ⟨rfl, rfl⟩))
          go_ret
          exact ⟨rfl, below_boxed (below_boxed hb)⟩
        · rw [decide_eq_false p1] at V
          have HE : Hid (decide (HomesOk homes 28 ∧ Blank pos 0 masked.length sum) = false) := Lib.hid (by rw [decide_eq_false_iff_not]; exact fun h => p1 h.1)
          clear B
          rw [HE.out]; clear HE
          go_enter Tryz.func116, Tryz.ntmps116
          go_wp2_with (go_at_call 135; refine ((V _ (balloc (balloc1 _ _) _)).out).mono ?_; rintro e w1 ⟨rfl, rfl⟩)
          go_ret
          exact ⟨rfl, balloc (balloc1 _ _) _⟩
      · by_cases k4 : r.kind = 4
        · rw [dec_iff (ok_4 k4)]
          clear hd k1 k2 k3
          obtain ⟨kind, seq, pos, homes, masked, sum⟩ := r
          dsimp only at *
          subst k4
          have B := BL 4 pos seq 0 homes.length masked.length ch cm ah am
          clear h BL VH f
          generalize decide (Blank pos homes.length masked.length 0) = bl at *
          go_enter Tryz.func116, Tryz.ntmps116
          go_wp2_with (go_at_call 136; refine ((B _).out).mono ?_; rintro e w1 ⟨rfl, hb⟩)
          go_ret
          exact ⟨rfl, below_boxed (below_boxed hb)⟩
        · have HE : Hid (decide (RecOk r) = false) := Lib.hid (decide_eq_false (hd k1 k2 k3 k4))
          clear hd BL VH f h
          obtain ⟨kind, seq, pos, homes, masked, sum⟩ := r
          dsimp only at *
          have d1 : (kind == 1) = false := by rw [beq_eq_false_iff_ne]; exact k1
          have d2 : (kind == 2) = false := by rw [beq_eq_false_iff_ne]; exact k2
          have d3 : (kind == 3) = false := by rw [beq_eq_false_iff_ne]; exact k3
          have d4 : (kind == 4) = false := by rw [beq_eq_false_iff_ne]; exact k4
          clear k1 k2 k3 k4
          rw [HE.out]; clear HE
          go_enter Tryz.func116, Tryz.ntmps116
          go_wp2
          go_ret
          exact ⟨rfl, balloc (balloc1 _ _) _⟩
end Go.Proofs.YtanghmogeiiooaaGreatDoor

/- The net effect's map: which data a block has. -/
namespace Go.Proofs.YtanghmogeiiooaaGreatDoor
set_option linter.unusedVariables false
open Go.RowKit Go.Maps

abbrev chgV (c : Int × ByteArray) : Value := .agg #[.int .i64 c.1, .string c.2]
def chgD (c : Int × ByteArray) : DataW Unit := .agg [.lit (.int .i64 c.1), .lit (.string c.2.data.toList)]
def chgP : List Value → Option (DataW Unit × List MemPlace)
  | [.int .i64 x, .string s] => some (chgD (x, s), [])
  | _ => none
def chgR (v : Value) : Option (DataW Unit × List MemPlace) :=
  match v with
  | .agg cs => chgP cs.toList
  | _ => none
theorem chgR_of (c : Int × ByteArray) : chgR (chgV c) = some (chgD c, []) := rfl
theorem chgR_inv {v : Value} {y : DataW Unit × List MemPlace} (h : chgR v = some y) : ∃ c, v = chgV c ∧ y = (chgD c, []) := by
  unfold chgR at h
  split at h
  · rename_i cs
    unfold chgP at h
    split at h
    · rename_i x s e
      refine ⟨(x, s), ?_, by injection h with h; exact h.symm⟩
      have : cs = #[.int .i64 x, .string s] := by rw [← Array.toList_inj, e]
      rw [this]
    · cases h
  · cases h
theorem chgD_inj {c d : Int × ByteArray} (h : chgD c = chgD d) : c = d := by
  obtain ⟨x, s⟩ := c; obtain ⟨y, t⟩ := d
  unfold chgD at h
  injection h with h
  injection h with h1 h2
  injection h1 with h1; injection h1 with _ h1
  injection h2 with h2 _
  injection h2 with h2; injection h2 with h2
  have h1 : x = y := h1
  have h2 : s.data.toList = t.data.toList := h2
  subst h1
  have : s = t := by
    have h3 : s.data = t.data := Array.toList_inj.1 h2
    cases s; cases t; simpa using h3
  rw [this]
def optD2 (b : Int) : Option ByteArray → DataW Unit
  | none => .nil
  | some d => chgD (b, d)
theorem claw : Keyed Tryz.prog 3 := int_keyed Tryz.underlying3
theorem ckey_of (b : Int) (hb : I64 b) : keyOf Tryz.prog 3 (.int .i64 b) = some (.int .i64 b) := keyOf_int_mk Tryz.underlying3 (WalkArith.wf_i64 (by have := hb; omega))
theorem ckey_lit (b : Int) : WideAt.IsKeyLit (.int .i64 b) := by first | trivial | simp [WideAt.IsKeyLit] | exact .inr (.inl ⟨_, _, rfl⟩)
/-- block m is a map of at most n entries, in which block b's change is that of f -/
def MapC (m n : Nat) (f : Int → Option ByteArray) (w : World) : Prop := ∃ D : DataW Unit, w.ownsMap Tryz.prog 3 chgR m n D ∧ ∀ b : Int, I64 b → D.atKey (.int .i64 b) .nil = optD2 b (f b) ∧ Maps.has D (.int .i64 b) = (f b).isSome
section
variable {m n : Nat} {f : Int → Option ByteArray} {w w' : World}
theorem MapC.lt (h : MapC m n f w) : m < w.heap.size := by obtain ⟨D, h, _⟩ := h; exact h.lt
theorem MapC.same (h : MapC m n f w) (e : w'.heap[m]? = w.heap[m]?) : MapC m n f w' := by
  obtain ⟨D, ⟨es, clock, hb, r2⟩, r⟩ := h
  exact ⟨D, ⟨es, clock, e.trans hb, r2⟩, r⟩
theorem MapC.kept1 (h : MapC m n f w) (b : Below w.heap.size w w') : MapC m n f w' := h.same (b.block m h.lt)
theorem MapC.put (h : MapC m n f w) (hn : n ≤ 1000000) {b : Int} (hb : I64 b) (d : ByteArray) :
    ∃ w', (Instr.mapUpdate 126 (.map (some m)) (.int .i64 b) (chgV (b, d))).run Tryz.prog w = .ok () w' ∧ MapC m (n + 1) (putC f (b, d)) w' ∧ w.grownBy w' (some m) := by
  obtain ⟨D, h, hf⟩ := h
  obtain ⟨w', hrun, ho, hg⟩ := h.update claw Tryz.underlying126 (by unfold maxLen; omega) (ckey_of b hb) (chgR_of (b, d))
  have hD := h.isMap
  refine ⟨w', hrun, ⟨_, ho, fun k hk => ?_⟩, hg⟩
  unfold putC
  by_cases e : k = b
  · subst e
    rw [if_pos rfl]
    exact ⟨Maps.atKey_put_same hD (ckey_lit _) _ _, Maps.has_put_same hD (ckey_lit _) _⟩
  · rw [if_neg e]
    have hne : (Lit.int .i64 k) ≠ (Lit.int .i64 b) := fun h => e (by injection h)
    exact ⟨(Maps.atKey_put_other hne _ _).trans (hf k hk).1, (Maps.has_put_other hne _).trans (hf k hk).2⟩
theorem MapC.del (h : MapC m n f w) {b : Int} (hb : I64 b) (ty : TypeId) :
    ∃ w', (Builtin.delete_ #[126, 3] ty #[.map (some m), .int .i64 b]).run Tryz.prog w = .ok (.tuple #[]) w' ∧ MapC m n (delC f b) w' ∧ w.grownBy w' (some m) := by
  obtain ⟨D, h, hf⟩ := h
  obtain ⟨w', hrun, ho, hg⟩ := h.drop claw Tryz.underlying126 (ckey_of b hb) ty
  refine ⟨w', hrun, ⟨_, ho, fun k hk => ?_⟩, hg.grown⟩
  unfold delC
  by_cases e : k = b
  · subst e
    rw [if_pos rfl]
    exact ⟨Maps.atKey_del_same _, Maps.has_del_same⟩
  · rw [if_neg e]
    have hne : (Lit.int .i64 k) ≠ (Lit.int .i64 b) := fun h => e (by injection h)
    exact ⟨(Maps.atKey_del_other hne _).trans (hf k hk).1, (Maps.has_del_other hne).trans (hf k hk).2⟩
end
section
variable {ops : Array Oper} {rest : List Oper} {o : Oper} {a : Act} {Q : Exit → Act → World → Prop} {w : World}
/-- 'last[b] = c' -/
theorem wpList_cPut (hgd : o.guard = none) (x y z : Operand) (hop : o.op = Op.mapUpdate 126 x y z) {m n : Nat} {f : Int → Option ByteArray} (h : MapC m n f w) (hn : n ≤ 1000000) (b : Int) (hb : I64 b) (d : ByteArray)
    (hx : a.eval x = .map (some m)) (hy : a.eval y = .int .i64 b) (hz : a.eval z = chgV (b, d))
    (hK : ∀ w', MapC m (n + 1) (putC f (b, d)) w' → w.grownBy w' (some m) → wpList Tryz.prog ops Q rest (a.put o.dst undef) w') : wpList Tryz.prog ops Q (o :: rest) a w := by
  refine wpList_plain hgd fun K' hK' => ?_
  obtain ⟨w', hrun, r1, r2⟩ := h.put hn hb d
  unfold Oper.wp
  simp [execOp, hop, hx, hy, hz, hrun, Result.andThen]
  exact hK' _ _ (hK w' r1 r2)
/-- 'delete(last, b)' -/
theorem wpList_cDel (hgd : o.guard = none) (x y : Operand) (hop : o.op = Op.call { callee := Callee.builtin Builtin.delete, args := #[x, y], argTypes := #[126, 3] }) {m n : Nat} {f : Int → Option ByteArray} (h : MapC m n f w) (b : Int) (hb : I64 b)
    (hx : a.eval x = .map (some m)) (hy : a.eval y = .int .i64 b)
    (hK : ∀ w', MapC m n (delC f b) w' → w.grownBy w' (some m) → wpList Tryz.prog ops Q rest (a.put o.dst (.tuple #[])) w') : wpList Tryz.prog ops Q (o :: rest) a w := by
  refine wpList_plain hgd fun K' hK' => ?_
  obtain ⟨w', hrun, r1, r2⟩ := h.del hb o.type
  unfold Oper.wp
  simp [execOp, hop, resolve, invoke, builtin, hx, hy, hrun, Result.andThen]
  exact hK' _ _ (hK w' r1 r2)
end
theorem MapC.made (w : World) : MapC w.heap.size 0 (fun _ => none) (w.alloc (.map #[] 0)) :=
  ⟨.map [], World.ownsMap_made _ _ _ _, fun b hb => ⟨rfl, rfl⟩⟩
end Go.Proofs.YtanghmogeiiooaaGreatDoor
