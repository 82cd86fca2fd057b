import Derived.Test.YtanghmogeiiooaaGreatDoorPa31
import Derived.Test.YtanghmogeiiooaaGreatDoorPa32
import Derived.Test.YtanghmogeiiooaaGreatDoorPa12
import Derived.Deep.RegionLaw
set_option linter.unusedVariables false
set_option linter.unusedSimpArgs false
set_option linter.constructorNameAsVariable false
/- blocks: a transaction's. -/
namespace Go.Proofs.YtanghmogeiiooaaGreatDoor
set_option linter.unusedVariables false
set_option linter.unusedSimpArgs false
open Go.RowKit Go.Shelf
attribute [local go_sem] Oper.semAt_some

/-- a transaction's blocks -/
def blocksT (seq : Nat) (L : List (Int × ByteArray)) (R : List Int) : List ByteArray := bodyOf seq (chunks 28 R) (chunks 24 L) ++ [blk (comR seq (sumOf (bodyOf seq (chunks 28 R) (chunks 24 L))))]
theorem maskV_size {s : ByteArray} (h : s.size = 128) : (maskV s).size = 128 := by
  unfold maskV
  split
  · rw [maskS_size (by omega), h]
  · exact h
theorem body_size {seq : Nat} (hq : seq < 18446744073709551616) {cs : List (List Int)} {gs : List (List (Int × ByteArray))} (hc : ∀ c ∈ cs, HomesOk c 28) (hg : ∀ g ∈ gs, HomesOk (g.map Prod.fst) 24 ∧ ∀ c ∈ g, c.2.size = 128) : ∀ b ∈ bodyOf seq cs gs, b.size = 128 := by
  intro b hb
  rcases List.mem_append.1 hb with h | h
  · obtain ⟨c, h1, rfl⟩ := List.mem_map.1 h
    exact blk_size (revR_ok hq (hc c h1)).1
  · obtain ⟨g, h1, h2⟩ := List.mem_flatMap.1 h
    rcases List.mem_cons.1 h2 with rfl | h3
    · exact blk_size (descR_ok hq (hg g h1).1).1
    · obtain ⟨c, h4, rfl⟩ := List.mem_map.1 h3
      exact maskV_size ((hg g h1).2 c h4)
theorem sizeG_flat : ∀ gs : List (List (Int × ByteArray)), sizeG gs = gs.length + gs.flatten.length
  | [] => rfl
  | g :: gs => by rw [sizeG_cons, sizeG_flat gs, List.length_cons, List.flatten_cons, List.length_append]; omega
/-- what blocks' own memory holds: three boxes, and the texts so far -/
structure BM (w : World) (vc vr : Value) (seq : Nat) (T : List ByteArray) (v : Value) (W : World) : Prop where
  tb : Blk w.heap.size #[vc, vr] 64 W
  sb : Blk (w.heap.size + 1) #[.int .u64 (seq : Int)] 70 W
  lb : Blk (w.heap.size + 2) #[v] 106 W
  row : TextsOwn (w.heap.size + 3) v T W
  below : Below w.heap.size w W
theorem BM.other {w : World} {vc vr : Value} {seq : Nat} {T : List ByteArray} {v : Value} {W W' : World} {row : Option Nat} (h : BM w vc vr seq T v W) (hg : W.grownBy W' row) (hr : ∀ r, row = some r → w.heap.size ≤ r ∧ ∃ o : Obj, W.heap[r]? = some o ∧ o.isCells = false) : BM w vc vr seq T v W' :=
  ⟨blk_other h.tb hg fun r e => (hr r e).2, blk_other h.sb hg fun r e => (hr r e).2, blk_other h.lb hg fun r e => (hr r e).2, row_other h.row hg fun r e => (hr r e).2, h.below.grown hg h.below.size fun k e => (hr k e).1⟩
theorem BM.kept {w : World} {vc vr : Value} {seq : Nat} {T : List ByteArray} {v : Value} {W W' : World} (h : BM w vc vr seq T v W) (hb : Below W.heap.size W W') : BM w vc vr seq T v W' :=
  ⟨h.tb.kept1 hb, h.sb.kept1 hb, h.lb.kept1 hb, row_kept h.row hb, bnext h.below hb⟩
theorem BM.alloc {w : World} {vc vr : Value} {seq : Nat} {T : List ByteArray} {v : Value} {W : World} (h : BM w vc vr seq T v W) (o : Obj) : BM w vc vr seq T v (W.alloc o) := h.kept (balloc1 W o)
/-- behind an append -/
theorem BM.put {w : World} {vc vr : Value} {seq : Nat} {T T' : List ByteArray} {v v' : Value} {W W' : World} (h : BM w vc vr seq T v W) (hr : TextsOwn (w.heap.size + 3) v' T' W') (hg : W.grownBy W' v.ownBlock) :
    BM w vc vr seq T' v' (W'.setCell ⟨w.heap.size + 2, 0, none⟩ v') ∧ Blk (w.heap.size + 2) #[v] 106 W' ∧ Below (w.heap.size + 3) W W' := by
  have hb := below_of_row h.row hg (by have := h.lb.lt; omega)
  have l1 : Blk (w.heap.size + 2) #[v] 106 W' := (hb.block _ (by omega)).trans h.lb
  have t1 : Blk w.heap.size #[vc, vr] 64 W' := (hb.block _ (by omega)).trans h.tb
  have s1 : Blk (w.heap.size + 1) #[.int .u64 (seq : Int)] 70 W' := (hb.block _ (by omega)).trans h.sb
  refine ⟨⟨t1.other (by show w.heap.size + 2 ≠ _; omega) _, s1.other (by show w.heap.size + 2 ≠ _; omega) _, ?_, row_setlow hr (by omega), (h.below.trans (hb.mono (by omega))).setCell (by show w.heap.size ≤ w.heap.size + 2; omega) _⟩, l1, hb⟩
  have := l1.set 0 v'; simpa using this
theorem chunksF_le {α : Type} (k : Nat) : ∀ (f : Nat) (l : List α), (chunksF k f l).length ≤ f
  | 0, l => Nat.le_refl _
  | f + 1, [] => by show (0 : Nat) ≤ _; omega
  | f + 1, a :: l => by
    show (chunksF k f _).length + 1 ≤ f + 1
    have := chunksF_le k f ((a :: l).drop k); omega
theorem body_le (seq : Nat) (L : List (Int × ByteArray)) (R : List Int) : (bodyOf seq (chunks 28 R) (chunks 24 L)).length ≤ R.length + 2 * L.length := by
  rw [bodyOf_length, sizeG_flat, chunks_join (by decide)]
  have h1 := chunksF_le 28 R.length R
  have h2 := chunksF_le 24 L.length L
  unfold chunks; omega
theorem chunks_le {α : Type} (k : Nat) (l : List α) : (chunks k l).length ≤ l.length := chunksF_le k _ l
/-- the two boxes of a loop's iterator -/
abbrev Box2 (p q : Nat) (vs : Value) (ts : TypeId) (m : Nat) (W : World) : Prop := Blk p #[vs] ts W ∧ Blk q #[.int .i64 (m : Int)] 3 W
abbrev f1 (seq : Nat) {Pr : List Int → Prop} {W0 : World} (pre : List (CkI Pr W0)) : List ByteArray := pre.map fun x => blk (revR seq x.1.2)
abbrev f2 (seq : Nat) (T1 : List ByteArray) {Pr : List (Int × ByteArray) → Prop} {W0 : World} (pre : List (CkC Pr W0)) : List ByteArray := T1 ++ pre.flatMap fun x => descB seq x.1.2
theorem f1_succ (seq : Nat) {Pr : List Int → Prop} {W0 : World} (pre : List (CkI Pr W0)) (x : CkI Pr W0) : f1 seq (pre ++ [x]) = f1 seq pre ++ [blk (revR seq x.1.2)] := by unfold f1; rw [List.map_append]; rfl
theorem f2_succ (seq : Nat) (T1 : List ByteArray) {Pr : List (Int × ByteArray) → Prop} {W0 : World} (pre : List (CkC Pr W0)) (x : CkC Pr W0) : f2 seq T1 (pre ++ [x]) = f2 seq T1 pre ++ descB seq x.1.2 := by unfold f2; rw [List.flatMap_append, List.append_assoc]; simp
theorem f1_length (seq : Nat) {Pr : List Int → Prop} {W0 : World} (pre : List (CkI Pr W0)) : (f1 seq pre).length = pre.length := by unfold f1; rw [List.length_map]
theorem f1_all (seq : Nat) {Pr : List Int → Prop} {W0 : World} {pre : List (CkI Pr W0)} {C : List (List Int)} (h : (pre.map fun x : CkI Pr W0 => x.1.2) = C) : f1 seq pre = C.map fun c => blk (revR seq c) := by rw [← h, List.map_map]; rfl
theorem f2_all (seq : Nat) (T1 : List ByteArray) {Pr : List (Int × ByteArray) → Prop} {W0 : World} {pre : List (CkC Pr W0)} {C : List (List (Int × ByteArray))} (h : (pre.map fun x : CkC Pr W0 => x.1.2) = C) : f2 seq T1 pre = T1 ++ C.flatMap fun g => descB seq g := by
  rw [← h, List.flatMap_map]
theorem f2_length (seq : Nat) (T1 : List ByteArray) {Pr : List (Int × ByteArray) → Prop} {W0 : World} (hP : ∀ l, Pr l → l.length ≤ 24) (pre : List (CkC Pr W0)) : (f2 seq T1 pre).length ≤ T1.length + 25 * pre.length := by
  unfold f2
  rw [List.length_append]
  have : (pre.flatMap fun x => descB seq x.1.2).length ≤ 25 * pre.length := by
    induction pre with
    | nil => simp
    | cons x pre ih =>
      rw [List.flatMap_cons, List.length_append, descB_length, List.length_cons]
      have := hP _ x.2.2; omega
  omega
set_option maxRecDepth 100000 in
set_option maxHeartbeats 16000000 in
theorem jblocks_any (seq : Nat) (hq : seq < 18446744073709551616) (L : List (Int × ByteArray)) (R : List Int) (hL : L.length ≤ 4000) (hR : R.length ≤ 20000) (hp1 : R.Pairwise (· < ·)) (hb1 : ∀ x ∈ R, 0 ≤ x ∧ x < 4096)
    (hp2 : (L.map Prod.fst).Pairwise (· < ·)) (hb2 : ∀ c ∈ L, 0 ≤ c.1 ∧ c.1 < 4096 ∧ c.2.size = 128) (vc vr : Value) (w : World) (hc : ChgsIn vc L w) (hr : IntsIn vr R w) (ht : Tab w) :
    Calls Tryz.prog 48 #[.agg #[vc, vr], .int .u64 (seq : Int)] w fun e w' => ∃ v, e = .returned v ∧ TextsOwn w.heap.size v (blocksT seq L R) w' ∧ Below w.heap.size w w' := by
  have mixed : Tryz.prog.follows .mixedOrders = true := by kernel_rfl
  have gr : Tryz.prog.stoodInHeld 134 = false := by kernel_rfl
  obtain ⟨ac, cc, rfl, -⟩ := hc.shape
  obtain ⟨ar, cr, rfl, -⟩ := hr.shape
  have hP1 : ∀ k, k * 28 < R.length → HomesOk (grp 28 R k) 28 := fun k hk => grp_homes (m := 28) (by decide) hp1 hb1 hk
  have hP2 : ∀ k, k * 24 < L.length → HomesOk ((grp 24 L k).map Prod.fst) 24 ∧ ∀ c ∈ grp 24 L k, c.2.size = 128 := fun k hk => grp_changes (m := 24) (by decide) hp2 hb2 hk
  obtain ⟨Pr1, hPr1⟩ : ∃ Pr1 : List Int → Prop, Pr1 = fun c => HomesOk c 28 := ⟨_, rfl⟩
  obtain ⟨Pr2, hPr2⟩ : ∃ Pr2 : List (Int × ByteArray) → Prop, Pr2 = fun g => HomesOk (g.map Prod.fst) 24 ∧ ∀ c ∈ g, c.2.size = 128 := ⟨_, rfl⟩
  have hP1 : ∀ k, k * 28 < R.length → Pr1 (grp 28 R k) := by rw [hPr1]; exact hP1
  have hP2 : ∀ k, k * 24 < L.length → Pr2 (grp 24 L k) := by rw [hPr2]; exact hP2
  have E1 : ∀ (x : CkI Pr1 w) (W : World), Below w.heap.size w W → Calls Tryz.prog 70 #[.agg #[.int .i64 3, .int .u64 (seq : Int), .int .i64 0, x.1.1, .slice none 0 0, .int .u32 0]] W fun e w' => e = .returned (.string (blk (revR seq x.1.2))) ∧ Below W.heap.size W w' := fun x W hb => by
    obtain ⟨⟨v, c⟩, h1, h2⟩ := x
    rw [hPr1] at h2
    obtain ⟨o1, o2⟩ := revR_ok hq h2
    exact encoded_any (revR seq c) o1 o2 v (.slice none 0 0) W ⟨RowIn.kept h1 hb, RowIn.nil 1 W⟩
  have D1 : ∀ (x : CkC Pr2 w) (W : World), Below w.heap.size w W → Calls Tryz.prog 78 #[x.1.1, .int .u64 (seq : Int)] W fun e w' => ∃ v', e = .returned v' ∧ TextsOwn W.heap.size v' (descB seq x.1.2) w' ∧ Below W.heap.size W w' := fun x W hb => by
    obtain ⟨⟨v, c⟩, h1, h2⟩ := x
    rw [hPr2] at h2
    exact described_any seq hq c h2.1 (fun y hy => by rw [h2.2 y hy]; unfold maxLen; omega) v W (RowIn.kept h1 hb)
  have hP24 : ∀ l, Pr2 l → l.length ≤ 24 := by rw [hPr2]; intro l h; have := h.1.2.1; rw [List.length_map] at this; omega
  have hhc : ∀ c ∈ chunks 28 R, HomesOk c 28 := fun c hcm => (chunks_homes (k := 28) (hm := fun _ => true) (by decide) hp1 hb1 (fun _ _ => rfl) c hcm).1
  have hhg : ∀ g ∈ chunks 24 L, HomesOk (g.map Prod.fst) 24 ∧ ∀ c ∈ g, c.2.size = 128 := fun g hgm => ⟨(chunks_changes (k := 24) (hm := fun _ => true) (by decide) hp2 (fun x hx => ⟨(hb2 x hx).1, (hb2 x hx).2.1⟩) (fun _ _ => rfl) g hgm).1, fun c hcm => (hb2 c ((chunksF_each (by decide) _ L g hgm).2.2.subset hcm)).2.2⟩
  have HSZ := Lib.hid (body_size hq hhc hhg)
  have HBL0 := Lib.hid (body_le seq L R)
  clear hhc hhg
  have HE1 := Lib.hid E1
  have HD1 := Lib.hid D1
  have HP1 := Lib.hid hP1
  have HP2 := Lib.hid hP2
  have HP24 := Lib.hid hP24
  have HC := Lib.hid hc
  have HR := Lib.hid hr
  have HT := Lib.hid ht
  obtain ⟨W3, hW3⟩ : ∃ W3, ((w.alloc (.cells #[.slice ac L.length cc, .slice ar R.length cr] 64)).alloc (.cells #[.int .u64 (seq : Int)] 70)).alloc (.cells #[.slice none 0 0] 106) = W3 := ⟨_, rfl⟩
  have hz3 : W3.heap.size = w.heap.size + 3 := by rw [← hW3, size_alloc, size_alloc, size_alloc]
  have M3 : BM w (.slice ac L.length cc) (.slice ar R.length cr) seq [] (.slice none 0 0) W3 := by
    rw [← hW3]
    refine ⟨((Blk.new _ _ w).kept1 (balloc1 _ _)).kept1 (balloc1 _ _), ?_, ?_, World.ownsRow_nil _ _ _ _, balloc (balloc (balloc1 w _) _) _⟩
    · have := Blk.new #[.int .u64 (seq : Int)] 70 (w.alloc (.cells #[.slice ac L.length cc, .slice ar R.length cr] 64))
      rw [size_alloc] at this; exact this.kept1 (balloc1 _ _)
    · have := Blk.new #[.slice none 0 0] 106 ((w.alloc (.cells #[.slice ac L.length cc, .slice ar R.length cr] 64)).alloc (.cells #[.int .u64 (seq : Int)] 70))
      rw [size_alloc, size_alloc] at this; exact this
  have HW3 := Lib.hid hW3
  have HM3 := Lib.hid M3
  have m0 := M3.tb.cell 0
  have m1 := M3.tb.cell 1
  simp only [List.getElem?_toArray, List.getElem?_cons_zero, List.getElem?_cons_succ] at m0 m1
  have CI := Lib.hid (chunkI_any ar R.length cr 28 (by decide) (by decide) W3)
  clear hW3 hc hr ht hP1 hP2 hPr1 hPr2 E1 D1 hP24 M3 hp1 hb1 hp2 hb2
  refine (callsIn_wide (n := 10)).1 (callsIn_of_wp_marks Tryz.func48 rfl trivial ?_ rfl)
  simp only [Tryz.ntmps48, List.size_toArray, List.length_cons, List.length_nil, Nat.reduceAdd, Nat.reduceSub, Array.replicate_succ, Array.replicate_zero, List.push_toArray, List.append_toArray, List.nil_append, List.cons_append]
  gi_wp2_with fail
  rw [HW3.out]
  refine ⟨trivial, (callsIn_wide.2 CI.out).mono ?_⟩; rintro e W5 ⟨rfl, hw5⟩
  have hz5 : W5.heap.size = w.heap.size + 5 := by rw [hw5, size_alloc, size_alloc, hz3]
  have M5 : BM w (.slice ac L.length cc) (.slice ar R.length cr) seq [] (.slice none 0 0) W5 := by rw [hw5]; exact (HM3.out.alloc _).alloc _
  have B5 : Box2 (w.heap.size + 3) (w.heap.size + 4) (.slice ar R.length cr) 56 28 W5 := by
    rw [hw5]
    refine ⟨?_, ?_⟩
    · have := Blk.new #[.slice ar R.length cr] 56 W3
      rw [hz3] at this; exact this.kept1 (balloc1 _ _)
    · have := Blk.new #[.int .i64 ((28 : Nat) : Int)] 3 (W3.alloc (.cells #[.slice ar R.length cr] 56))
      rw [size_alloc, hz3] at this; exact this
  have HM5 := Lib.hid M5
  have HB5 := Lib.hid B5
  have HZ5 := Lib.hid hz5
  clear HW3 HM3 CI m0 m1 hw5 M5 B5
  rw [hz3]
  clear hz3
  gi_wp2
  refine wpIn_rangeFunc_ownF rfl (by omega) (gf := 101) (lb := #[.pointer (some ⟨w.heap.size + 3, 0, none⟩), .pointer (some ⟨w.heap.size + 4, 0, none⟩)]) rfl trivial (enters_of Tryz.func101 (by kernel_rfl) rfl)
    (chunkI_stops _ (w.heap.size + 3) (w.heap.size + 4) w.heap.size 28 (by decide) (by decide) R (by omega) Pr1 HP1.out w rfl ar cr HR.out W5 (HB5.out.1.cell 0) (HB5.out.2.cell 0)) KpC.trans (KpC.put (by rw [HZ5.out]; omega) (by rw [HZ5.out]; omega) (by rw [HZ5.out]; omega)) (Below.refl _ _) (fun _ => rfl)
    (fun pre W => (∃ v, BM w (.slice ac L.length cc) (.slice ar R.length cr) seq (f1 seq pre) v W) ∧ Box2 (w.heap.size + 3) (w.heap.size + 4) (.slice ar R.length cr) 56 28 W)
    (fun _ _ _ => False)
    (fun s A B row hs hg hr => ⟨hs.1.imp fun v h => h.other hg fun r e => ⟨by have := (hr r e).1; have := HZ5.out; omega, (hr r e).2⟩, blk_other hs.2.1 hg fun r e => (hr r e).2, blk_other hs.2.2 hg fun r e => (hr r e).2⟩)
    (fun _ _ _ _ _ hs _ _ => hs)
    ⟨⟨_, HM5.out⟩, HB5.out⟩
    (fun x => { tmps := #[.agg #[.slice ac L.length cc, .slice ar R.length cr], .int .u64 (seq : Int), .pointer (some ⟨w.heap.size, 0, none⟩), .pointer (some ⟨w.heap.size + 1, 0, none⟩), .slice none 0 0, .pointer (some ⟨w.heap.size + 1 + 1, 0, none⟩), x.1.1, undef, .pointer (some ⟨w.heap.size, 1, none⟩), .slice ar R.length cr, .func (.func 101) #[] #[.pointer (some ⟨w.heap.size + 3, 0, none⟩), .pointer (some ⟨w.heap.size + 4, 0, none⟩)], x.1.1, undef, undef, undef, undef, undef, undef, undef, undef, undef, undef, undef, undef, undef, undef, undef, undef, undef, undef, undef, undef, undef, undef, undef, undef, undef], defers := [] }) ?assign ?body ?done ?stop
  case assign =>
    intro l x W K hK
    gi_wp2
    exact hK
  case stop =>
    rintro D c pre W _ _ h _
    exact h.elim
  case body =>
    rintro l pre x W ⟨⟨v, hM⟩, hB⟩ hlt
    have HRD := Lib.hid (HE1.out x)
    clear HE1 HD1 HP1 HP2 HP24 HC HR HT HM5 HB5 HZ5
    obtain ⟨av, cv, rfl, -⟩ := shape_of hM.row
    have hTL := f1_length seq pre
    have HSUC := Lib.hid (f1_succ seq pre x)
    obtain ⟨TL, hTLe⟩ : ∃ TL, f1 seq pre = TL := ⟨_, rfl⟩
    obtain ⟨B, hBe⟩ : ∃ B, blk (revR seq x.1.2) = B := ⟨_, rfl⟩
    rw [hTLe] at hM hTL HSUC
    rw [hBe] at HSUC HRD
    obtain ⟨n, hn⟩ : ∃ n, (f1 seq pre).length = n := ⟨_, rfl⟩
    rw [hTLe] at hn
    have HNN := Lib.hid hn
    rw [hn] at hM
    have hM0 : BM w (.slice ac L.length cc) (.slice ar R.length cr) seq TL (.slice av n cv) W.drew := ⟨hM.tb, hM.sb, hM.lb, hM.row, hM.below.drew⟩
    have l0 : W.cell? ⟨w.heap.size + 1 + 1, 0, none⟩ = some (.slice av n cv) := hM.lb.cell 0
    have hsz : w.heap.size + 5 ≤ W.heap.size := hB.2.lt
    have HMD := Lib.hid hM0
    have HSB : Hid (∀ w9, Below (w.heap.size + 2) W w9 → w9.cell? ⟨w.heap.size + 1, 0, none⟩ = some (.int .u64 (seq : Int))) := Lib.hid fun w9 h => Blk.cell (show Blk (w.heap.size + 1) #[.int .u64 (seq : Int)] 70 w9 from (h.block _ (by omega)).trans hM.sb) 0
    have HBX := Lib.hid hB
    have hTN : TL.length ≤ 20000 := by omega
    obtain ⟨xa, xn, xc, hxv⟩ : ∃ xa xn xc, x.1.1 = .slice xa xn xc := by obtain ⟨xa, xc, e, -⟩ := (x.2.1).shape; exact ⟨xa, _, xc, e⟩
    rw [hxv] at HRD
    rw [hxv]
    clear hM hM0 hB hTLe hBe hTL hn hlt hxv
    gi_wp2
    skip
    refine wpIn_round_any (S := fun W2 => Below (w.heap.size + 2) W W2) mixed (by kernel_rfl) (noOut_block noOut_own) ((Below.refl _ _).drew) (fun hHeld => ?_)
    refine wpAnyH_take (i := 1) (oi := _) (v := ?vb1) rfl (by kernel_rfl) (by kernel_rfl) (by kernel_rfl) (fun _ _ _ h => h) (Or.inl ⟨by kernel_rfl, ?hyb1⟩) hHeld ?restb1
    case hyb1 => (intro w9 hSw; have q := HSB.out w9 hSw; clear hSw; go_simp; try with_reducible rfl)
    try simp only [Act.put, List.setIfInBounds_toArray, List.set_cons_zero, List.set_cons_succ]
    refine wpAnyH_take (i := 2) (oi := _) (v := ?vb2) rfl (by kernel_rfl) (by kernel_rfl) (by kernel_rfl) (fun _ _ _ h => h) (Or.inl ⟨by kernel_rfl, ?hyb2⟩) hHeld ?restb2
    case hyb2 => (intro w9 hSw; clear hSw; go_simp; try with_reducible rfl)
    try simp only [Act.put, List.setIfInBounds_toArray, List.set_cons_zero, List.set_cons_succ]
    refine wpAnyH_take (i := 3) (oi := _) (v := ?vb3) rfl (by kernel_rfl) (by kernel_rfl) (by kernel_rfl) (fun _ _ _ h => h) (Or.inl ⟨by kernel_rfl, ?hyb3⟩) hHeld ?restb3
    case hyb3 => (intro w9 hSw; clear hSw; go_simp; try with_reducible rfl)
    try simp only [Act.put, List.setIfInBounds_toArray, List.set_cons_zero, List.set_cons_succ]
    refine wpAnyH_ready (rs := [0, 4]) (by kernel_rfl) (by simp) ?_
    refine AllReadyH.cons (o := _) rfl (fun K hK => ?_) ?_
    · go_simp
      refine hK.out _ _ (hHeld) (fun hHeld3 => ?_)
      clear hK K hHeld
      have hHeld := hHeld3
      clear hHeld3
      try simp only [Act.put, List.setIfInBounds_toArray, List.set_cons_zero, List.set_cons_succ]
      refine wpAnyH_ready (rs := [4]) (by kernel_rfl) (by simp) ?_
      refine AllReadyH.cons (o := _) rfl (fun K hK => ?_) ?_
      · go_simp
        refine (HRD.out _ HMD.out.below).mono ?_; rintro e wz ⟨rfl, bz⟩
        dsimp only
        have hHeldz : Below (w.heap.size + 2) W wz := hHeld.trans (bz.mono (by show w.heap.size + 2 ≤ W.heap.size; omega))
        have Mz := HMD.out.kept bz
        have Ma := Mz.alloc (.cells #[.string B] 9)
        have l1 : wz.cell? ⟨w.heap.size + 1 + 1, 0, none⟩ = some (.slice av n cv) := Mz.lb.cell 0
        have l2 : (wz.alloc (.cells #[.string B] 9)).cell? ⟨w.heap.size + 1 + 1, 0, none⟩ = some (.slice av n cv) := Ma.lb.cell 0
        have hwz : W.heap.size ≤ wz.heap.size := bz.size
        obtain ⟨v2, w2, hrun, hown2, hg2⟩ := app1_run (ty := 106) (w.heap.size + 3) (.slice av n cv) TL B wz Mz.row (by omega) (by omega)
        have hput := Ma.put hown2 hg2
        obtain ⟨a2, n2, c2, rfl⟩ : ∃ a2 n2 c2, v2 = .slice a2 n2 c2 := by obtain ⟨a2, c2, e2, -⟩ := shape_of hown2; exact ⟨a2, _, c2, e2⟩
        have y0 : w2.cell? ⟨w.heap.size + 1 + 1, 0, none⟩ = some (.slice av n cv) := hput.2.1.cell 0
        have y1 : w2.frozen? ⟨w.heap.size + 1 + 1, 0, none⟩ = false := hput.2.1.frozen 0
        have HK : Hid (KeepsOthers W (w2.setCell ⟨w.heap.size + 1 + 1, 0, none⟩ (.slice a2 n2 c2))) := Lib.hid (((keeps_below (show Below W.heap.size W wz from ⟨bz.os, bz.tape, bz.output, bz.size, bz.block⟩)).trans ((KeepsOthers.alloc wz _).trans (keeps_row Ma.row hg2))).trans (KeepsOthers.setCell _ _ _))
        have HBL : Hid (Below (w.heap.size + 2) W w2) := Lib.hid (((show Below W.heap.size W wz from ⟨bz.os, bz.tape, bz.output, bz.size, bz.block⟩).mono (by omega)).trans (((balloc1 wz _).mono (by omega)).trans (hput.2.2.mono (by omega))))
        have HB3 : Hid (Box2 (w.heap.size + 3) (w.heap.size + 4) (.slice ar R.length cr) 56 28 (w2.setCell ⟨w.heap.size + 1 + 1, 0, none⟩ (.slice a2 n2 c2))) := Lib.hid ⟨Blk.other (show Blk (w.heap.size + 3) _ _ w2 from blk_grown ((Blk.kept1 (w := W.drew) HBX.out.1 bz).kept1 (balloc1 _ _)) Ma.row (by decide) hg2) (by show w.heap.size + 2 ≠ _; omega) _, Blk.other (show Blk (w.heap.size + 4) _ _ w2 from blk_grown ((Blk.kept1 (w := W.drew) HBX.out.2 bz).kept1 (balloc1 _ _)) Ma.row (by decide) hg2) (by show w.heap.size + 2 ≠ _; omega) _⟩
        have HME := Lib.hid hput.1
        clear Mz Ma hown2 hg2 hput bz
        refine hK.out _ _ (hHeldz) (fun hHeld3 => ?_)
        clear hK K hHeld
        have hHeld := hHeld3
        clear hHeld3
        try simp only [Act.put, List.setIfInBounds_toArray, List.set_cons_zero, List.set_cons_succ]
        refine wpAnyH_ready (rs := [5]) (by kernel_rfl) (by simp) ?_
        refine AllReadyH.cons (o := _) rfl (fun K hK => ?_) ?_
        · go_simp
          refine hK.out _ _ (hHeld.alloc (by omega) _) (fun hHeld3 => ?_)
          clear hK K hHeld
          have hHeld := hHeld3
          clear hHeld3
          try simp only [Act.put, List.setIfInBounds_toArray, List.set_cons_zero, List.set_cons_succ]
          refine wpAnyH_ready (rs := [6]) (by kernel_rfl) (by simp) ?_
          refine AllReadyH.cons (o := _) rfl (fun K hK => ?_) ?_
          · refine step_append rfl _ _ _ rfl rfl rfl hrun ?_
            refine hK.out _ _ (HBL.out) (fun hHeld3 => ?_)
            clear hK K hHeld
            have hHeld := hHeld3
            clear hHeld3
            try simp only [Act.put, List.setIfInBounds_toArray, List.set_cons_zero, List.set_cons_succ]
            refine wpAnyH_ready (rs := [7]) (by kernel_rfl) (by simp) ?_
            refine AllReadyH.cons (o := _) rfl (fun K hK => ?_) ?_
            · go_simp
              refine hK.out _ _ (HBL.out.setCell (p := ⟨w.heap.size + 1 + 1, 0, none⟩) (by show w.heap.size + 2 ≤ w.heap.size + 1 + 1; omega) _) (fun hHeld3 => ?_)
              clear hK K hHeld
              have hHeld := hHeld3
              clear hHeld3
              try simp only [Act.put, List.setIfInBounds_toArray, List.set_cons_zero, List.set_cons_succ]
              refine ⟨by kernel_rfl, ?_⟩
              have HL2 := HB3.out
              have hk := HK.out
              exact ⟨hk, ⟨(HBL.out.mono (by omega)).setCell (p := ⟨w.heap.size + 1 + 1, 0, none⟩) (by show w.heap.size ≤ w.heap.size + 1 + 1; omega) _, fun _ => HL2.1.trans HBX.out.1.symm, fun _ => HL2.2.trans HBX.out.2.symm⟩, ⟨_, by rw [HSUC.out]; exact HME.out⟩, HL2⟩
            exact AllReadyH.nil
          exact AllReadyH.nil
        exact AllReadyH.nil
      exact AllReadyH.nil
    refine AllReadyH.cons (o := _) rfl (fun K hK => ?_) ?_
    · go_simp
      refine (HRD.out _ HMD.out.below).mono ?_; rintro e wz ⟨rfl, bz⟩
      dsimp only
      have hHeldz : Below (w.heap.size + 2) W wz := hHeld.trans (bz.mono (by show w.heap.size + 2 ≤ W.heap.size; omega))
      have Mz := HMD.out.kept bz
      have Ma := Mz.alloc (.cells #[.string B] 9)
      have l1 : wz.cell? ⟨w.heap.size + 1 + 1, 0, none⟩ = some (.slice av n cv) := Mz.lb.cell 0
      have l2 : (wz.alloc (.cells #[.string B] 9)).cell? ⟨w.heap.size + 1 + 1, 0, none⟩ = some (.slice av n cv) := Ma.lb.cell 0
      have hwz : W.heap.size ≤ wz.heap.size := bz.size
      obtain ⟨v2, w2, hrun, hown2, hg2⟩ := app1_run (ty := 106) (w.heap.size + 3) (.slice av n cv) TL B wz Mz.row (by omega) (by omega)
      have hput := Ma.put hown2 hg2
      obtain ⟨a2, n2, c2, rfl⟩ : ∃ a2 n2 c2, v2 = .slice a2 n2 c2 := by obtain ⟨a2, c2, e2, -⟩ := shape_of hown2; exact ⟨a2, _, c2, e2⟩
      have y0 : w2.cell? ⟨w.heap.size + 1 + 1, 0, none⟩ = some (.slice av n cv) := hput.2.1.cell 0
      have y1 : w2.frozen? ⟨w.heap.size + 1 + 1, 0, none⟩ = false := hput.2.1.frozen 0
      have HK : Hid (KeepsOthers W (w2.setCell ⟨w.heap.size + 1 + 1, 0, none⟩ (.slice a2 n2 c2))) := Lib.hid (((keeps_below (show Below W.heap.size W wz from ⟨bz.os, bz.tape, bz.output, bz.size, bz.block⟩)).trans ((KeepsOthers.alloc wz _).trans (keeps_row Ma.row hg2))).trans (KeepsOthers.setCell _ _ _))
      have HBL : Hid (Below (w.heap.size + 2) W w2) := Lib.hid (((show Below W.heap.size W wz from ⟨bz.os, bz.tape, bz.output, bz.size, bz.block⟩).mono (by omega)).trans (((balloc1 wz _).mono (by omega)).trans (hput.2.2.mono (by omega))))
      have HB3 : Hid (Box2 (w.heap.size + 3) (w.heap.size + 4) (.slice ar R.length cr) 56 28 (w2.setCell ⟨w.heap.size + 1 + 1, 0, none⟩ (.slice a2 n2 c2))) := Lib.hid ⟨Blk.other (show Blk (w.heap.size + 3) _ _ w2 from blk_grown ((Blk.kept1 (w := W.drew) HBX.out.1 bz).kept1 (balloc1 _ _)) Ma.row (by decide) hg2) (by show w.heap.size + 2 ≠ _; omega) _, Blk.other (show Blk (w.heap.size + 4) _ _ w2 from blk_grown ((Blk.kept1 (w := W.drew) HBX.out.2 bz).kept1 (balloc1 _ _)) Ma.row (by decide) hg2) (by show w.heap.size + 2 ≠ _; omega) _⟩
      have HME := Lib.hid hput.1
      clear Mz Ma hown2 hg2 hput bz
      refine hK.out _ _ (hHeldz) (fun hHeld3 => ?_)
      clear hK K hHeld
      have hHeld := hHeld3
      clear hHeld3
      try simp only [Act.put, List.setIfInBounds_toArray, List.set_cons_zero, List.set_cons_succ]
      refine wpAnyH_ready (rs := [0, 5]) (by kernel_rfl) (by simp) ?_
      refine AllReadyH.cons (o := _) rfl (fun K hK => ?_) ?_
      · go_simp
        refine hK.out _ _ (hHeld) (fun hHeld3 => ?_)
        clear hK K hHeld
        have hHeld := hHeld3
        clear hHeld3
        try simp only [Act.put, List.setIfInBounds_toArray, List.set_cons_zero, List.set_cons_succ]
        refine wpAnyH_ready (rs := [5]) (by kernel_rfl) (by simp) ?_
        refine AllReadyH.cons (o := _) rfl (fun K hK => ?_) ?_
        · go_simp
          refine hK.out _ _ (hHeld.alloc (by omega) _) (fun hHeld3 => ?_)
          clear hK K hHeld
          have hHeld := hHeld3
          clear hHeld3
          try simp only [Act.put, List.setIfInBounds_toArray, List.set_cons_zero, List.set_cons_succ]
          refine wpAnyH_ready (rs := [6]) (by kernel_rfl) (by simp) ?_
          refine AllReadyH.cons (o := _) rfl (fun K hK => ?_) ?_
          · refine step_append rfl _ _ _ rfl rfl rfl hrun ?_
            refine hK.out _ _ (HBL.out) (fun hHeld3 => ?_)
            clear hK K hHeld
            have hHeld := hHeld3
            clear hHeld3
            try simp only [Act.put, List.setIfInBounds_toArray, List.set_cons_zero, List.set_cons_succ]
            refine wpAnyH_ready (rs := [7]) (by kernel_rfl) (by simp) ?_
            refine AllReadyH.cons (o := _) rfl (fun K hK => ?_) ?_
            · go_simp
              refine hK.out _ _ (HBL.out.setCell (p := ⟨w.heap.size + 1 + 1, 0, none⟩) (by show w.heap.size + 2 ≤ w.heap.size + 1 + 1; omega) _) (fun hHeld3 => ?_)
              clear hK K hHeld
              have hHeld := hHeld3
              clear hHeld3
              try simp only [Act.put, List.setIfInBounds_toArray, List.set_cons_zero, List.set_cons_succ]
              refine ⟨by kernel_rfl, ?_⟩
              have HL2 := HB3.out
              have hk := HK.out
              exact ⟨hk, ⟨(HBL.out.mono (by omega)).setCell (p := ⟨w.heap.size + 1 + 1, 0, none⟩) (by show w.heap.size ≤ w.heap.size + 1 + 1; omega) _, fun _ => HL2.1.trans HBX.out.1.symm, fun _ => HL2.2.trans HBX.out.2.symm⟩, ⟨_, by rw [HSUC.out]; exact HME.out⟩, HL2⟩
            exact AllReadyH.nil
          exact AllReadyH.nil
        exact AllReadyH.nil
      refine AllReadyH.cons (o := _) rfl (fun K hK => ?_) ?_
      · go_simp
        refine hK.out _ _ (hHeld.alloc (by omega) _) (fun hHeld3 => ?_)
        clear hK K hHeld
        have hHeld := hHeld3
        clear hHeld3
        try simp only [Act.put, List.setIfInBounds_toArray, List.set_cons_zero, List.set_cons_succ]
        refine wpAnyH_ready (rs := [0]) (by kernel_rfl) (by simp) ?_
        refine AllReadyH.cons (o := _) rfl (fun K hK => ?_) ?_
        · go_simp
          refine hK.out _ _ (hHeld) (fun hHeld3 => ?_)
          clear hK K hHeld
          have hHeld := hHeld3
          clear hHeld3
          try simp only [Act.put, List.setIfInBounds_toArray, List.set_cons_zero, List.set_cons_succ]
          refine wpAnyH_ready (rs := [6]) (by kernel_rfl) (by simp) ?_
          refine AllReadyH.cons (o := _) rfl (fun K hK => ?_) ?_
          · refine step_append rfl _ _ _ rfl rfl rfl hrun ?_
            refine hK.out _ _ (HBL.out) (fun hHeld3 => ?_)
            clear hK K hHeld
            have hHeld := hHeld3
            clear hHeld3
            try simp only [Act.put, List.setIfInBounds_toArray, List.set_cons_zero, List.set_cons_succ]
            refine wpAnyH_ready (rs := [7]) (by kernel_rfl) (by simp) ?_
            refine AllReadyH.cons (o := _) rfl (fun K hK => ?_) ?_
            · go_simp
              refine hK.out _ _ (HBL.out.setCell (p := ⟨w.heap.size + 1 + 1, 0, none⟩) (by show w.heap.size + 2 ≤ w.heap.size + 1 + 1; omega) _) (fun hHeld3 => ?_)
              clear hK K hHeld
              have hHeld := hHeld3
              clear hHeld3
              try simp only [Act.put, List.setIfInBounds_toArray, List.set_cons_zero, List.set_cons_succ]
              refine ⟨by kernel_rfl, ?_⟩
              have HL2 := HB3.out
              have hk := HK.out
              exact ⟨hk, ⟨(HBL.out.mono (by omega)).setCell (p := ⟨w.heap.size + 1 + 1, 0, none⟩) (by show w.heap.size ≤ w.heap.size + 1 + 1; omega) _, fun _ => HL2.1.trans HBX.out.1.symm, fun _ => HL2.2.trans HBX.out.2.symm⟩, ⟨_, by rw [HSUC.out]; exact HME.out⟩, HL2⟩
            exact AllReadyH.nil
          exact AllReadyH.nil
        exact AllReadyH.nil
      exact AllReadyH.nil
    exact AllReadyH.nil
  case done =>
    rintro D1 xs W6 hD1 hxs ⟨⟨v, hM⟩, hB⟩ hK1
    have hT1 := f1_all seq hxs
    obtain ⟨T1, hT1e⟩ : ∃ T1, T1 = (chunks 28 R).map fun c => blk (revR seq c) := ⟨_, rfl⟩
    rw [← hT1e] at hT1
    rw [hT1] at hM
    have HT1 := Lib.hid hT1e
    have hDlt : D1 < W6.heap.size := (Array.getElem?_eq_some_iff.1 hK1).1
    have h5 := HZ5.out
    have hD1w : w.heap.size ≤ D1 := by omega
    have hz6 : w.heap.size + 5 ≤ W6.heap.size := by have := hB.2.lt; omega
    have m0 : W6.cell? ⟨w.heap.size, 0, none⟩ = some (.slice ac L.length cc) := hM.tb.cell 0
    have HM6 := Lib.hid hM
    have HK1 := Lib.hid hK1
    have CC := Lib.hid (chunkC_any ac L.length cc 24 (by decide) (by decide) W6)
    clear hxs hT1 hT1e hM hB hK1 HE1 HP1 HR HM5 HB5 HZ5 h5 hD1
    dsimp only
    gi_wp2_with fail
    refine ⟨trivial, (callsIn_wide.2 CC.out).mono ?_⟩; rintro e W7 ⟨rfl, hw7⟩
    have hz7 : W7.heap.size = W6.heap.size + 2 := by rw [hw7, size_alloc, size_alloc]
    have M7 : BM w (.slice ac L.length cc) (.slice ar R.length cr) seq T1 v W7 := by rw [hw7]; exact (HM6.out.alloc _).alloc _
    have B7 : Box2 W6.heap.size (W6.heap.size + 1) (.slice ac L.length cc) 62 24 W7 := by
      rw [hw7]
      refine ⟨(Blk.new _ _ W6).kept1 (balloc1 _ _), ?_⟩
      have := Blk.new #[.int .i64 ((24 : Nat) : Int)] 3 (W6.alloc (.cells #[.slice ac L.length cc] 62))
      rw [size_alloc] at this; exact this
    have K7 : W7.heap[D1]? = some (.deferred (some [])) := by rw [hw7]; exact ((balloc (balloc1 W6 _) _).block D1 hDlt).trans HK1.out
    have HM7 := Lib.hid M7
    have HB7 := Lib.hid B7
    have HK7 := Lib.hid K7
    have HZ7 := Lib.hid hz7
    clear HM6 HK1 CC m0 hw7 M7 B7 K7 hz7
    generalize W6.heap.size = z6 at *
    gi_wp2
    refine wpIn_rangeFunc_ownF rfl (by omega) (gf := 102) (lb := #[.pointer (some ⟨z6, 0, none⟩), .pointer (some ⟨z6 + 1, 0, none⟩)]) rfl trivial (enters_of Tryz.func102 (by kernel_rfl) rfl)
      (chunkC_stops _ z6 (z6 + 1) w.heap.size 24 (by decide) (by decide) L (by omega) Pr2 HP2.out w rfl ac cc HC.out W7 (HB7.out.1.cell 0) (HB7.out.2.cell 0)) KpC.trans (KpC.put (by rw [HZ7.out]; omega) (by rw [HZ7.out]; omega) (by rw [HZ7.out]; omega)) (Below.refl _ _) (fun _ => rfl)
      (fun pre W => (∃ v, BM w (.slice ac L.length cc) (.slice ar R.length cr) seq (f2 seq T1 pre) v W) ∧ Box2 z6 (z6 + 1) (.slice ac L.length cc) 62 24 W ∧ W.heap[D1]? = some (.deferred (some [])))
      (fun _ _ _ => False)
      (fun s A B row hs hg hr => ⟨hs.1.imp fun v h => h.other hg fun r e => ⟨by have := (hr r e).1; have := HZ7.out; omega, (hr r e).2⟩, ⟨blk_other hs.2.1.1 hg fun r e => (hr r e).2, blk_other hs.2.1.2 hg fun r e => (hr r e).2⟩, (hg.block D1 (Array.getElem?_eq_some_iff.1 hs.2.2).1 fun e => by have := (hr D1 e.symm).1; have := HZ7.out; omega).trans hs.2.2⟩)
      (fun _ _ _ _ _ hs _ _ => hs)
      ⟨⟨_, by rw [show f2 seq T1 [] = T1 from List.append_nil _]; exact HM7.out⟩, HB7.out, HK7.out⟩
      (fun x => { tmps := #[.agg #[.slice ac L.length cc, .slice ar R.length cr], .int .u64 (seq : Int), .pointer (some ⟨w.heap.size, 0, none⟩), .pointer (some ⟨w.heap.size + 1, 0, none⟩), .slice none 0 0, .pointer (some ⟨w.heap.size + 1 + 1, 0, none⟩), undef, x.1.1, .pointer (some ⟨w.heap.size, 1, none⟩), .slice ar R.length cr, .func (.func 101) #[] #[.pointer (some ⟨w.heap.size + 3, 0, none⟩), .pointer (some ⟨w.heap.size + 3 + 1, 0, none⟩)], undef, undef, undef, undef, undef, undef, undef, undef, .pointer (some ⟨w.heap.size, 0, none⟩), .slice ac L.length cc, .func (.func 102) #[] #[.pointer (some ⟨z6, 0, none⟩), .pointer (some ⟨z6 + 1, 0, none⟩)], x.1.1, undef, undef, undef, undef, undef, undef, undef, undef, undef, undef, undef, undef, undef, undef], defers := [] }) ?assign2 ?body2 ?done2 ?stop2
    case assign2 =>
      intro l x W K hK
      gi_wp2
      exact hK
    case stop2 =>
      rintro D c pre W _ _ h _
      exact h.elim
    case body2 =>
      rintro l pre x W ⟨⟨v, hM⟩, hB, hKD⟩ hlt
      have HRD := Lib.hid (HD1.out x)
      clear HD1 HP2 HC HT HM7 HB7 HK7
      obtain ⟨av, cv, rfl, -⟩ := shape_of hM.row
      have hTL := f2_length seq T1 HP24.out pre
      have hT1L : T1.length ≤ 20000 := by rw [HT1.out, List.length_map]; have := chunks_le 28 R; omega
      have hPL := HP24.out _ x.2.2
      have HSUC := Lib.hid (f2_succ seq T1 pre x)
      obtain ⟨TL, hTLe⟩ : ∃ TL, f2 seq T1 pre = TL := ⟨_, rfl⟩
      obtain ⟨B, hBe⟩ : ∃ B, descB seq x.1.2 = B := ⟨_, rfl⟩
      have hBL := descB_length seq x.1.2
      rw [hTLe] at hM hTL HSUC
      rw [hBe] at HSUC HRD hBL
      obtain ⟨n, hn⟩ : ∃ n, (f2 seq T1 pre).length = n := ⟨_, rfl⟩
      rw [hTLe] at hn
      have HNN := Lib.hid hn
      rw [hn] at hM
      have hM0 : BM w (.slice ac L.length cc) (.slice ar R.length cr) seq TL (.slice av n cv) W.drew := ⟨hM.tb, hM.sb, hM.lb, hM.row, hM.below.drew⟩
      have l0 : W.cell? ⟨w.heap.size + 1 + 1, 0, none⟩ = some (.slice av n cv) := hM.lb.cell 0
      have hsz : w.heap.size + 5 ≤ W.heap.size := by have := hB.2.lt; omega
      have HMD := Lib.hid hM0
      have HSB : Hid (∀ w9, Below (w.heap.size + 2) W w9 → w9.cell? ⟨w.heap.size + 1, 0, none⟩ = some (.int .u64 (seq : Int))) := Lib.hid fun w9 h => Blk.cell (show Blk (w.heap.size + 1) #[.int .u64 (seq : Int)] 70 w9 from (h.block _ (by omega)).trans hM.sb) 0
      have HBX := Lib.hid hB
      have HKD := Lib.hid hKD
      have hTN : TL.length ≤ 200000 := by omega
      have hB0 : 0 < B.length := by omega
      have hB1 : B.length ≤ 25 := by omega
      obtain ⟨xa, xn, xc, hxv⟩ : ∃ xa xn xc, x.1.1 = .slice xa xn xc := by obtain ⟨xa, xc, e, -⟩ := (x.2.1).shape; exact ⟨xa, _, xc, e⟩
      rw [hxv] at HRD
      rw [hxv]
      clear hM hM0 hB hKD hTLe hBe hTL hn hlt hxv hBL hPL hT1L
      gi_wp2
      refine wpIn_round_any (S := fun W2 => Below (w.heap.size + 2) W W2) mixed (by kernel_rfl) (noOut_block noOut_own) ((Below.refl _ _).drew) (fun hHeld => ?_)
      refine wpAnyH_take (i := 1) (oi := _) (v := ?vc1) rfl (by kernel_rfl) (by kernel_rfl) (by kernel_rfl) (fun _ _ _ h => h) (Or.inl ⟨by kernel_rfl, ?hyc1⟩) hHeld ?restc1
      case hyc1 => (intro w9 hSw; clear hSw; go_simp; try with_reducible rfl)
      try simp only [Act.put, List.setIfInBounds_toArray, List.set_cons_zero, List.set_cons_succ]
      refine wpAnyH_take (i := 2) (oi := _) (v := ?vc2) rfl (by kernel_rfl) (by kernel_rfl) (by kernel_rfl) (fun _ _ _ h => h) (Or.inl ⟨by kernel_rfl, ?hyc2⟩) hHeld ?restc2
      case hyc2 => (intro w9 hSw; have q := HSB.out w9 hSw; clear hSw; go_simp; try with_reducible rfl)
      try simp only [Act.put, List.setIfInBounds_toArray, List.set_cons_zero, List.set_cons_succ]
      refine wpAnyH_ready (rs := [0, 3]) (by kernel_rfl) (by simp) ?_
      refine AllReadyH.cons (o := _) rfl (fun K hK => ?_) ?_
      · go_simp
        refine hK.out _ _ (hHeld) (fun hHeld3 => ?_)
        clear hK K hHeld
        have hHeld := hHeld3
        clear hHeld3
        try simp only [Act.put, List.setIfInBounds_toArray, List.set_cons_zero, List.set_cons_succ]
        refine wpAnyH_ready (rs := [3]) (by kernel_rfl) (by simp) ?_
        refine AllReadyH.cons (o := _) rfl (fun K hK => ?_) ?_
        · go_simp
          refine (HRD.out _ HMD.out.below).mono ?_; rintro e wz ⟨vd, rfl, hvd, bz⟩
          obtain ⟨ad, nd, cd, rfl⟩ : ∃ ad nd cd, vd = .slice ad nd cd := by obtain ⟨ad, cd, e, -⟩ := shape_of hvd; exact ⟨ad, _, cd, e⟩
          dsimp only
          have hHeldz : Below (w.heap.size + 2) W wz := hHeld.trans (bz.mono (by show w.heap.size + 2 ≤ W.heap.size; omega))
          have Mz := HMD.out.kept bz
          have l1 : wz.cell? ⟨w.heap.size + 1 + 1, 0, none⟩ = some (.slice av n cv) := Mz.lb.cell 0
          have hwz : W.heap.size ≤ wz.heap.size := bz.size
          obtain ⟨v2, w2, hrun, hown2, hg2⟩ := appT_run (ty := 106) (w.heap.size + 3) _ (.slice av n cv) (.slice ad nd cd) TL B wz Mz.row hvd hB0 (by omega) (by omega) (by omega)
          have hput := Mz.put hown2 hg2
          obtain ⟨a2, n2, c2, rfl⟩ : ∃ a2 n2 c2, v2 = .slice a2 n2 c2 := by obtain ⟨a2, c2, e2, -⟩ := shape_of hown2; exact ⟨a2, _, c2, e2⟩
          have y0 : w2.cell? ⟨w.heap.size + 1 + 1, 0, none⟩ = some (.slice av n cv) := hput.2.1.cell 0
          have y1 : w2.frozen? ⟨w.heap.size + 1 + 1, 0, none⟩ = false := hput.2.1.frozen 0
          have bz2 : Below W.heap.size W wz := ⟨bz.os, bz.tape, bz.output, bz.size, bz.block⟩
          have HK : Hid (KeepsOthers W (w2.setCell ⟨w.heap.size + 1 + 1, 0, none⟩ (.slice a2 n2 c2))) := Lib.hid (((keeps_below bz2).trans (keeps_row Mz.row hg2)).trans (KeepsOthers.setCell _ _ _))
          have HBL : Hid (Below (w.heap.size + 2) W w2) := Lib.hid ((bz2.mono (by omega)).trans (hput.2.2.mono (by omega)))
          have HB3 : Hid (Box2 z6 (z6 + 1) (.slice ac L.length cc) 62 24 (w2.setCell ⟨w.heap.size + 1 + 1, 0, none⟩ (.slice a2 n2 c2))) := Lib.hid ⟨Blk.other (show Blk z6 _ _ w2 from blk_grown (Blk.kept1 (w := W.drew) HBX.out.1 bz) Mz.row (by decide) hg2) (by show w.heap.size + 2 ≠ _; omega) _, Blk.other (show Blk (z6 + 1) _ _ w2 from blk_grown (Blk.kept1 (w := W.drew) HBX.out.2 bz) Mz.row (by decide) hg2) (by show w.heap.size + 2 ≠ _; omega) _⟩
          have HME := Lib.hid hput.1
          clear Mz hown2 hg2 hput bz bz2 hvd
          refine hK.out _ _ (hHeldz) (fun hHeld3 => ?_)
          clear hK K hHeld
          have hHeld := hHeld3
          clear hHeld3
          try simp only [Act.put, List.setIfInBounds_toArray, List.set_cons_zero, List.set_cons_succ]
          refine wpAnyH_ready (rs := [4]) (by kernel_rfl) (by simp) ?_
          refine AllReadyH.cons (o := _) rfl (fun K hK => ?_) ?_
          · refine step_append rfl _ _ _ rfl rfl rfl hrun ?_
            refine hK.out _ _ (HBL.out) (fun hHeld3 => ?_)
            clear hK K hHeld
            have hHeld := hHeld3
            clear hHeld3
            try simp only [Act.put, List.setIfInBounds_toArray, List.set_cons_zero, List.set_cons_succ]
            refine wpAnyH_ready (rs := [5]) (by kernel_rfl) (by simp) ?_
            refine AllReadyH.cons (o := _) rfl (fun K hK => ?_) ?_
            · go_simp
              refine hK.out _ _ (HBL.out.setCell (p := ⟨w.heap.size + 1 + 1, 0, none⟩) (by show w.heap.size + 2 ≤ w.heap.size + 1 + 1; omega) _) (fun hHeld3 => ?_)
              clear hK K hHeld
              have hHeld := hHeld3
              clear hHeld3
              try simp only [Act.put, List.setIfInBounds_toArray, List.set_cons_zero, List.set_cons_succ]
              refine ⟨by kernel_rfl, ?_⟩
              have HL2 := HB3.out
              have hk := HK.out
              exact ⟨hk, ⟨(HBL.out.mono (by omega)).setCell (p := ⟨w.heap.size + 1 + 1, 0, none⟩) (by show w.heap.size ≤ w.heap.size + 1 + 1; omega) _, fun _ => HL2.1.trans HBX.out.1.symm, fun _ => HL2.2.trans HBX.out.2.symm⟩, ⟨_, by rw [HSUC.out]; exact HME.out⟩, HL2, hk.same D1 _ HKD.out rfl⟩
            exact AllReadyH.nil
          exact AllReadyH.nil
        exact AllReadyH.nil
      refine AllReadyH.cons (o := _) rfl (fun K hK => ?_) ?_
      · go_simp
        refine (HRD.out _ HMD.out.below).mono ?_; rintro e wz ⟨vd, rfl, hvd, bz⟩
        obtain ⟨ad, nd, cd, rfl⟩ : ∃ ad nd cd, vd = .slice ad nd cd := by obtain ⟨ad, cd, e, -⟩ := shape_of hvd; exact ⟨ad, _, cd, e⟩
        dsimp only
        have hHeldz : Below (w.heap.size + 2) W wz := hHeld.trans (bz.mono (by show w.heap.size + 2 ≤ W.heap.size; omega))
        have Mz := HMD.out.kept bz
        have l1 : wz.cell? ⟨w.heap.size + 1 + 1, 0, none⟩ = some (.slice av n cv) := Mz.lb.cell 0
        have hwz : W.heap.size ≤ wz.heap.size := bz.size
        obtain ⟨v2, w2, hrun, hown2, hg2⟩ := appT_run (ty := 106) (w.heap.size + 3) _ (.slice av n cv) (.slice ad nd cd) TL B wz Mz.row hvd hB0 (by omega) (by omega) (by omega)
        have hput := Mz.put hown2 hg2
        obtain ⟨a2, n2, c2, rfl⟩ : ∃ a2 n2 c2, v2 = .slice a2 n2 c2 := by obtain ⟨a2, c2, e2, -⟩ := shape_of hown2; exact ⟨a2, _, c2, e2⟩
        have y0 : w2.cell? ⟨w.heap.size + 1 + 1, 0, none⟩ = some (.slice av n cv) := hput.2.1.cell 0
        have y1 : w2.frozen? ⟨w.heap.size + 1 + 1, 0, none⟩ = false := hput.2.1.frozen 0
        have bz2 : Below W.heap.size W wz := ⟨bz.os, bz.tape, bz.output, bz.size, bz.block⟩
        have HK : Hid (KeepsOthers W (w2.setCell ⟨w.heap.size + 1 + 1, 0, none⟩ (.slice a2 n2 c2))) := Lib.hid (((keeps_below bz2).trans (keeps_row Mz.row hg2)).trans (KeepsOthers.setCell _ _ _))
        have HBL : Hid (Below (w.heap.size + 2) W w2) := Lib.hid ((bz2.mono (by omega)).trans (hput.2.2.mono (by omega)))
        have HB3 : Hid (Box2 z6 (z6 + 1) (.slice ac L.length cc) 62 24 (w2.setCell ⟨w.heap.size + 1 + 1, 0, none⟩ (.slice a2 n2 c2))) := Lib.hid ⟨Blk.other (show Blk z6 _ _ w2 from blk_grown (Blk.kept1 (w := W.drew) HBX.out.1 bz) Mz.row (by decide) hg2) (by show w.heap.size + 2 ≠ _; omega) _, Blk.other (show Blk (z6 + 1) _ _ w2 from blk_grown (Blk.kept1 (w := W.drew) HBX.out.2 bz) Mz.row (by decide) hg2) (by show w.heap.size + 2 ≠ _; omega) _⟩
        have HME := Lib.hid hput.1
        clear Mz hown2 hg2 hput bz bz2 hvd
        refine hK.out _ _ (hHeldz) (fun hHeld3 => ?_)
        clear hK K hHeld
        have hHeld := hHeld3
        clear hHeld3
        try simp only [Act.put, List.setIfInBounds_toArray, List.set_cons_zero, List.set_cons_succ]
        refine wpAnyH_ready (rs := [0]) (by kernel_rfl) (by simp) ?_
        refine AllReadyH.cons (o := _) rfl (fun K hK => ?_) ?_
        · go_simp
          refine hK.out _ _ (hHeld) (fun hHeld3 => ?_)
          clear hK K hHeld
          have hHeld := hHeld3
          clear hHeld3
          try simp only [Act.put, List.setIfInBounds_toArray, List.set_cons_zero, List.set_cons_succ]
          refine wpAnyH_ready (rs := [4]) (by kernel_rfl) (by simp) ?_
          refine AllReadyH.cons (o := _) rfl (fun K hK => ?_) ?_
          · refine step_append rfl _ _ _ rfl rfl rfl hrun ?_
            refine hK.out _ _ (HBL.out) (fun hHeld3 => ?_)
            clear hK K hHeld
            have hHeld := hHeld3
            clear hHeld3
            try simp only [Act.put, List.setIfInBounds_toArray, List.set_cons_zero, List.set_cons_succ]
            refine wpAnyH_ready (rs := [5]) (by kernel_rfl) (by simp) ?_
            refine AllReadyH.cons (o := _) rfl (fun K hK => ?_) ?_
            · go_simp
              refine hK.out _ _ (HBL.out.setCell (p := ⟨w.heap.size + 1 + 1, 0, none⟩) (by show w.heap.size + 2 ≤ w.heap.size + 1 + 1; omega) _) (fun hHeld3 => ?_)
              clear hK K hHeld
              have hHeld := hHeld3
              clear hHeld3
              try simp only [Act.put, List.setIfInBounds_toArray, List.set_cons_zero, List.set_cons_succ]
              refine ⟨by kernel_rfl, ?_⟩
              have HL2 := HB3.out
              have hk := HK.out
              exact ⟨hk, ⟨(HBL.out.mono (by omega)).setCell (p := ⟨w.heap.size + 1 + 1, 0, none⟩) (by show w.heap.size ≤ w.heap.size + 1 + 1; omega) _, fun _ => HL2.1.trans HBX.out.1.symm, fun _ => HL2.2.trans HBX.out.2.symm⟩, ⟨_, by rw [HSUC.out]; exact HME.out⟩, HL2, hk.same D1 _ HKD.out rfl⟩
            exact AllReadyH.nil
          exact AllReadyH.nil
        exact AllReadyH.nil
      exact AllReadyH.nil
    case done2 =>
      rintro D2 xs W8 hD2 hxs ⟨⟨v, hM⟩, hB, hKD⟩ hK2
      have hT2 : f2 seq T1 xs = bodyOf seq (chunks 28 R) (chunks 24 L) := by rw [f2_all seq T1 hxs, HT1.out]; rfl
      rw [hT2] at hM
      have hsz := HSZ.out
      have hbl := HBL0.out
      obtain ⟨av, cv, rfl, -⟩ := shape_of hM.row
      have HRES : Hid (blocksT seq L R = bodyOf seq (chunks 28 R) (chunks 24 L) ++ [blk (comR seq (sumOf (bodyOf seq (chunks 28 R) (chunks 24 L))))]) := Lib.hid rfl
      generalize bodyOf seq (chunks 28 R) (chunks 24 L) = BO at *
      have h7 := HZ7.out
      have hz8 : w.heap.size + 5 ≤ W8.heap.size := by have := hB.2.lt; omega
      have hD2lt : D2 < W8.heap.size := (Array.getElem?_eq_some_iff.1 hK2).1
      obtain ⟨o1, o2⟩ := comR_ok (seq := seq) (sum := sumOf BO) hq (moreV_lt _ _ (by decide))
      have EC : ∀ W, Calls Tryz.prog 70 #[.agg #[.int .i64 4, .int .u64 (seq : Int), .int .i64 0, .slice none 0 0, .slice none 0 0, .int .u32 (sumOf BO : Nat)]] W fun e w' => e = .returned (.string (blk (comR seq (sumOf BO)))) ∧ Below W.heap.size W w' := fun W => encoded_any (comR seq (sumOf BO)) o1 o2 (.slice none 0 0) (.slice none 0 0) W ⟨RowIn.nil 1 W, RowIn.nil 1 W⟩
      have hjz := joinT_size hsz
      have SM : ∀ W, Tab W → Calls Tryz.prog 79 #[.string (joinT BO)] W fun e w' => e = .returned (.int .u32 (sumOf BO : Nat)) ∧ W = w' := fun W hW => sum_any (joinT BO) (by rw [hjz]; unfold maxLen; omega) W hW
      have hM0 : BM w (.slice ac L.length cc) (.slice ar R.length cr) seq BO (.slice av BO.length cv) W8.drew := ⟨hM.tb, hM.sb, hM.lb, hM.row, hM.below.drew⟩
      have JN := join_any BO (by omega) hsz _ W8.drew (own_in hM0.row)
      have HT8 : Hid (Tab W8.drew) := Lib.hid (tab_below1 HT.out (show Below w.heap.size w W8.drew from hM0.below))
      obtain ⟨SU, hSU⟩ : ∃ SU, sumOf BO = SU := ⟨_, rfl⟩
      rw [hSU] at EC SM HRES
      obtain ⟨JT, hJT⟩ : ∃ JT, joinT BO = JT := ⟨_, rfl⟩
      rw [hJT] at JN SM
      obtain ⟨CB, hCB⟩ : ∃ CB, blk (comR seq SU) = CB := ⟨_, rfl⟩
      rw [hCB] at EC HRES
      have HEC := Lib.hid EC
      have HSM := Lib.hid SM
      have HJN := Lib.hid JN
      obtain ⟨n, hn⟩ : ∃ n, BO.length = n := ⟨_, rfl⟩
      rw [hn] at hM hM0 HJN hbl
      have HNN := Lib.hid hn
      have l0 : W8.cell? ⟨w.heap.size + 1 + 1, 0, none⟩ = some (.slice av n cv) := hM.lb.cell 0
      have HMD := Lib.hid hM0
      have HLB : Hid (∀ w9, Below (w.heap.size + 3) W8 w9 → w9.cell? ⟨w.heap.size + 1 + 1, 0, none⟩ = some (.slice av n cv)) := Lib.hid fun w9 h => Blk.cell (show Blk (w.heap.size + 2) #[.slice av n cv] 106 w9 from (h.block _ (by omega)).trans hM.lb) 0
      have HSB : Hid (∀ w9, Below (w.heap.size + 3) W8 w9 → w9.cell? ⟨w.heap.size + 1, 0, none⟩ = some (.int .u64 (seq : Int))) := Lib.hid fun w9 h => Blk.cell (show Blk (w.heap.size + 1) #[.int .u64 (seq : Int)] 70 w9 from (h.block _ (by omega)).trans hM.sb) 0
      have HKD := Lib.hid hKD
      have HKE := Lib.hid hK2
      clear HD1 HP2 HC HM7 HB7 HK7 HZ7 HT HT1 HSZ HBL0 HP24 hxs hT2 hM hM0 hB hKD hK2 hsz o1 o2 EC hjz SM JN hSU hJT hCB hn l0
      dsimp only
      gi_wp2
      refine wpIn_wide.2 ?_
      refine wp_calm ?_
      refine wp_region_held_drew (S := fun W2 => Below (w.heap.size + 3) W8 W2) mixed ((Below.refl _ _).drew) (fun hHeld => ?_)
      refine wpAnyH_take (i := 0) (oi := _) (v := ?vd0) rfl (by kernel_rfl) (by kernel_rfl) (by kernel_rfl) (fun _ _ _ h => h) (Or.inl ⟨by kernel_rfl, ?hyd0⟩) hHeld ?restd0
      case hyd0 => (intro w9 hSw; have q := HLB.out w9 hSw; clear hSw; go_simp; try with_reducible rfl)
      try simp only [Act.put, List.setIfInBounds_toArray, List.set_cons_zero, List.set_cons_succ]
      refine wpAnyH_take (i := 1) (oi := _) (v := ?vd1) rfl (by kernel_rfl) (by kernel_rfl) (by kernel_rfl) (fun _ _ _ h => h) (Or.inl ⟨by kernel_rfl, ?hyd1⟩) hHeld ?restd1
      case hyd1 => (intro w9 hSw; have q := HSB.out w9 hSw; clear hSw; go_simp; try with_reducible rfl)
      try simp only [Act.put, List.setIfInBounds_toArray, List.set_cons_zero, List.set_cons_succ]
      refine wpAnyH_take (i := 2) (oi := _) (v := ?vd2) rfl (by kernel_rfl) (by kernel_rfl) (by kernel_rfl) (fun _ _ _ h => h) (Or.inl ⟨by kernel_rfl, ?hyd2⟩) hHeld ?restd2
      case hyd2 => (intro w9 hSw; have q := HLB.out w9 hSw; clear hSw; go_simp; try with_reducible rfl)
      try simp only [Act.put, List.setIfInBounds_toArray, List.set_cons_zero, List.set_cons_succ]
      refine wpAnyH_ready (rs := [3]) (by kernel_rfl) (by simp) ?_
      refine AllReadyH.cons (o := _) rfl (fun K hK => ?_) ?_
      · go_simp
        refine HJN.out.mono ?_; rintro e wj ⟨rfl, bj⟩
        dsimp only
        have hHeldj : Below (w.heap.size + 3) W8 wj := hHeld.trans (bj.mono (by show w.heap.size + 3 ≤ W8.heap.size; omega))
        have HMJ := Lib.hid (HMD.out.kept bj)
        have HTJ := Lib.hid (tab_below1 HT8.out bj)
        have HBJ : Hid (Below W8.heap.size W8 wj) := Lib.hid ⟨bj.os, bj.tape, bj.output, bj.size, bj.block⟩
        clear bj
        refine hK.out _ _ (hHeldj) (fun hHeld3 => ?_)
        clear hK K hHeld
        have hHeld := hHeld3
        clear hHeld3
        try simp only [Act.put, List.setIfInBounds_toArray, List.set_cons_zero, List.set_cons_succ]
        refine wpAnyH_ready (rs := [4]) (by kernel_rfl) (by simp) ?_
        refine AllReadyH.cons (o := _) rfl (fun K hK => ?_) ?_
        · go_simp
          refine (HSM.out _ HTJ.out).mono ?_; rintro e ws ⟨rfl, rfl⟩
          dsimp only
          refine hK.out _ _ (hHeldj) (fun hHeld3 => ?_)
          clear hK K hHeld
          have hHeld := hHeld3
          clear hHeld3
          try simp only [Act.put, List.setIfInBounds_toArray, List.set_cons_zero, List.set_cons_succ]
          refine wpAnyH_ready (rs := [5]) (by kernel_rfl) (by simp) ?_
          refine AllReadyH.cons (o := _) rfl (fun K hK => ?_) ?_
          · go_simp
            refine hK.out _ _ (hHeld) (fun hHeld3 => ?_)
            clear hK K hHeld
            have hHeld := hHeld3
            clear hHeld3
            try simp only [Act.put, List.setIfInBounds_toArray, List.set_cons_zero, List.set_cons_succ]
            refine wpAnyH_ready (rs := [6]) (by kernel_rfl) (by simp) ?_
            refine AllReadyH.cons (o := _) rfl (fun K hK => ?_) ?_
            · go_simp
              refine (HEC.out _).mono ?_; rintro e wz ⟨rfl, bz⟩
              dsimp only
              have hwj : W8.heap.size ≤ wj.heap.size := HBJ.out.size
              have hHeldz : Below (w.heap.size + 3) W8 wz := hHeld.trans (bz.mono (by omega))
              have Mz := HMJ.out.kept bz
              have Ma := Mz.alloc (.cells #[.string CB] 9)
              have hwz : wj.heap.size ≤ wz.heap.size := bz.size
              obtain ⟨v2, w2, hrun, hown2, hg2⟩ := app1_run (ty := 106) (w.heap.size + 3) (.slice av n cv) BO CB wz Mz.row (by have := HNN.out; omega) (by omega)
              have hput := Ma.put hown2 hg2
              obtain ⟨a2, n2, c2, rfl⟩ : ∃ a2 n2 c2, v2 = .slice a2 n2 c2 := by obtain ⟨a2, c2, e2, -⟩ := shape_of hown2; exact ⟨a2, _, c2, e2⟩
              have HK : Hid (KeepsOthers W8 w2) := Lib.hid ((keeps_below HBJ.out).trans ((keeps_below bz).trans ((KeepsOthers.alloc wz _).trans (keeps_row Ma.row hg2))))
              have HBL : Hid (Below (w.heap.size + 3) W8 w2) := Lib.hid (hHeldz.trans (((balloc1 wz _).mono (by omega)).trans hput.2.2))
              have HBW : Hid (Below w.heap.size w w2) := Lib.hid (Ma.below.trans (hput.2.2.mono (by omega)))
              have HOW : Hid (TextsOwn (w.heap.size + 3) (.slice a2 n2 c2) (BO ++ [CB]) w2) := Lib.hid hown2
              clear Mz Ma hown2 hg2 hput bz
              refine hK.out _ _ (hHeldz) (fun hHeld3 => ?_)
              clear hK K hHeld
              have hHeld := hHeld3
              clear hHeld3
              try simp only [Act.put, List.setIfInBounds_toArray, List.set_cons_zero, List.set_cons_succ]
              refine wpAnyH_ready (rs := [7]) (by kernel_rfl) (by simp) ?_
              refine AllReadyH.cons (o := _) rfl (fun K hK => ?_) ?_
              · go_simp
                refine hK.out _ _ (hHeld.alloc (by omega) _) (fun hHeld3 => ?_)
                clear hK K hHeld
                have hHeld := hHeld3
                clear hHeld3
                try simp only [Act.put, List.setIfInBounds_toArray, List.set_cons_zero, List.set_cons_succ]
                refine wpAnyH_ready (rs := [8]) (by kernel_rfl) (by simp) ?_
                refine AllReadyH.cons (o := _) rfl (fun K hK => ?_) ?_
                · refine step_append rfl _ _ _ rfl rfl rfl hrun ?_
                  refine hK.out _ _ (HBL.out) (fun hHeld3 => ?_)
                  clear hK K hHeld
                  have hHeld := hHeld3
                  clear hHeld3
                  try simp only [Act.put, List.setIfInBounds_toArray, List.set_cons_zero, List.set_cons_succ]
                  refine wpAnyH_ready (rs := [9]) (by kernel_rfl) (by simp) ?_
                  refine AllReadyH.cons (o := _) rfl (fun K hK => ?_) ?_
                  · go_simp
                    refine hK.out _ _ (hHeld) (fun hHeld3 => ?_)
                    clear hK K hHeld
                    have hHeld := hHeld3
                    clear hHeld3
                    try simp only [Act.put, List.setIfInBounds_toArray, List.set_cons_zero, List.set_cons_succ]
                    refine ⟨by kernel_rfl, ?_⟩
                    gi_wp2
                    have hk2 : w2.heap[D2]? = some (.deferred (some [])) := HK.out.same D2 _ HKE.out rfl
                    have hk1 : (w2.putObj D2 (.deferred none)).heap[D1]? = some (.deferred (some [])) := (World.putObj_heap_other (by omega)).trans (HK.out.same D1 _ HKD.out rfl)
                    refine ⟨by simp, .inl ⟨_, _, rfl, run_takeDeferred hk2, ?_⟩⟩
                    refine ⟨by simp, .inl ⟨_, _, rfl, run_takeDeferred hk1, ?_⟩⟩
                    refine ⟨_, results_tmp rfl _ _ _, _, rfl, ?_, ?_⟩
                    · rw [HRES.out]; exact row_down (by omega) (ownsRow_putObj (ownsRow_putObj HOW.out _ hk2 rfl) _ hk1 rfl)
                    · exact (HBW.out.trans (belowK_b (w := w) (Nat.le_refl _) w2 D2 _ _ (by omega) hk2 rfl rfl)).trans (belowK_b (w := w) (Nat.le_refl _) _ D1 _ _ (by omega) hk1 rfl rfl)
                  exact AllReadyH.nil
                exact AllReadyH.nil
              exact AllReadyH.nil
            exact AllReadyH.nil
          exact AllReadyH.nil
        exact AllReadyH.nil
      exact AllReadyH.nil
end Go.Proofs.YtanghmogeiiooaaGreatDoor
