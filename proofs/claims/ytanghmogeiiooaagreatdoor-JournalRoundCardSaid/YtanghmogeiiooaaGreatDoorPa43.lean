import Derived.Test.YtanghmogeiiooaaGreatDoorPa42
import Derived.Test.YtanghmogeiiooaaGreatDoorPa24
import Derived.Test.YtanghmogeiiooaaGreatDoorPa31
import Derived.Test.YtanghmogeiiooaaGreatDoorPa36
import Derived.Test.YtanghmogeiiooaaGreatDoorPa20
set_option linter.unusedVariables false
set_option linter.unusedSimpArgs false
set_option linter.constructorNameAsVariable false
/- slices.AppendSeq, Collect, SortedFunc of the net effect's values. -/
namespace Go.Proofs.YtanghmogeiiooaaGreatDoor
set_option linter.unusedVariables false
set_option linter.unusedSimpArgs false
open Go.RowKit Go.Shelf Go.Maps
attribute [local go_sem] Oper.semAt_some

theorem appC_run {ty : TypeId} (base : Nat) (v : Value) (L : List (Int × ByteArray)) (c : Int × ByteArray) (W : World) (hown : ChgsOwn base v L W) (hlen : L.length ≤ 4000000) (hbase : base ≤ W.heap.size) :
    ∃ v' w', (Builtin.append_ #[62, 62] ty #[v, .slice (some ⟨W.heap.size, 0, none⟩) 1 1]).run Tryz.prog (W.alloc (.cells (chgC c) 61)) = .ok v' w' ∧ ChgsOwn base v' (L ++ [c]) w' ∧ (W.alloc (.cells (chgC c) 61)).grownBy w' v.ownBlock := by
  obtain ⟨i0, hi, hz0, hz1, hz2⟩ := info_parts chg_info
  obtain ⟨v', w', hr, k1, k2, _⟩ := run_append_own (P := Tryz.prog) (W.alloc (.cells (chgC c) 61)) base 62 ty 61 i0 _ 2 24 Tryz.underlying62 hi hz0 hz1 hz2 rfl (by decide) v L.length (chgsL L) (hown.alloc _) ⟨W.heap.size, 0, none⟩ 1 1 [.int .i64 c.1, .string c.2] rfl (new_chg W c) (fun u hu => by simp at hu; rcases hu with rfl | rfl <;> rfl) (by unfold maxLen; omega) (by omega) (by rw [size_alloc]; omega)
  refine ⟨v', w', hr, ?_, k2⟩
  show w'.ownsRow _ _ _ _ (L ++ [c]).length (chgsL (L ++ [c]))
  rw [List.length_append, chgsL_append]; exact k1
/-- an append whose run is known -/
theorem wpList_run_app {ops : Array Oper} {rest : List Oper} {o : Oper} {a : Act} {Q : Exit → Act → World → Prop} {w w2 : World} (hgd : o.guard = none) (s x : Operand) (T : TypeId)
    (ho : o.op = .call { callee := .builtin .append, args := #[s, x], argTypes := #[T, T] }) {vs vx v' : Value} (hs : a.eval s = vs) (hx : a.eval x = vx)
    (hrun : (Builtin.append_ #[T, T] o.type #[vs, vx]).run Tryz.prog w = .ok v' w2) (h : wpList Tryz.prog ops Q rest (a.put o.dst v') w2) : wpList Tryz.prog ops Q (o :: rest) a w := by
  refine wpList_plain hgd fun K' hK' => ?_
  unfold Oper.wp execOp
  simp only [ho, resolve, invoke, builtin, Sem.run_bind, Sem.run_pure, Result.andThen_ok, List.map_toArray, List.map_cons, List.map_nil, hs, hx, hrun]
  exact hK' _ _ h
/-- what AppendSeq's own memory holds -/
structure AM (w : World) (L : List (Int × ByteArray)) (v : Value) (W : World) : Prop where
  sb : Blk w.heap.size #[v] 62 W
  row : ChgsOwn (w.heap.size + 1) v L W
  below : Below w.heap.size w W
theorem AM.other {w : World} {L : List (Int × ByteArray)} {v : Value} {W W' : World} {row : Option Nat} (h : AM w L v W) (hg : W.grownBy W' row) (hr : ∀ r, row = some r → w.heap.size ≤ r ∧ ∃ o : Obj, W.heap[r]? = some o ∧ o.isCells = false) : AM w L v W' :=
  ⟨blk_other h.sb hg fun r e => (hr r e).2, row_other h.row hg fun r e => (hr r e).2, h.below.grown hg h.below.size fun k e => (hr k e).1⟩
theorem AM.alloc {w : World} {L : List (Int × ByteArray)} {v : Value} {W : World} (h : AM w L v W) (o : Obj) : AM w L v (W.alloc o) := ⟨h.sb.kept1 (balloc1 W o), row_kept h.row (balloc1 W o), balloc h.below o⟩
theorem AM.put {w : World} {L L' : List (Int × ByteArray)} {v v' : Value} {W W' : World} (h : AM w L v W) (hr : ChgsOwn (w.heap.size + 1) v' L' W') (hg : W.grownBy W' v.ownBlock) :
    AM w L' v' (W'.setCell ⟨w.heap.size, 0, none⟩ v') ∧ Blk w.heap.size #[v] 62 W' := by
  have hb := below_of_row h.row hg (by have := h.sb.lt; omega)
  have l1 : Blk w.heap.size #[v] 62 W' := (hb.block _ (by omega)).trans h.sb
  refine ⟨⟨?_, row_setlow hr (by omega), (h.below.trans (hb.mono (by omega))).setCell (by show w.heap.size ≤ w.heap.size; omega) _⟩, l1⟩
  have := l1.set 0 v'; simpa using this
set_option maxRecDepth 100000 in
set_option maxHeartbeats 8000000 in
theorem appseq_any (Bm m nn : Nat) (f : Int → Option ByteArray) (hnn : nn ≤ 1000000) (w : World) (hBm : Bm < w.heap.size) (hm : w.cell? ⟨Bm, 0, none⟩ = some (.map (some m))) (hmap : MapC m nn f w) :
    Calls Tryz.prog 113 #[.slice none 0 0, .func (.func 95) #[] #[.pointer (some ⟨Bm, 0, none⟩)]] w fun e w' => ∃ v xs, e = .returned v ∧ AllOf f xs ∧ xs.length ≤ nn ∧ ChgsOwn w.heap.size v xs w' ∧ Below w.heap.size w w' := by
  have mixed : Tryz.prog.follows .mixedOrders = true := by kernel_rfl
  have gc : Tryz.prog.stoodInHeld 61 = false := by kernel_rfl
  obtain ⟨W1, hW1⟩ : ∃ W1, w.alloc (.cells #[.slice none 0 0] 62) = W1 := ⟨_, rfl⟩
  have M1 : AM w [] (.slice none 0 0) W1 := by rw [← hW1]; exact ⟨Blk.new _ _ w, World.ownsRow_nil _ _ _ _, balloc1 w _⟩
  have hz1 : W1.heap.size = w.heap.size + 1 := by rw [← hW1, size_alloc]
  have b1 : Below w.heap.size w W1 := M1.below
  have HW1 := Lib.hid hW1
  have ST := cvals_stops (10 - 1) Bm m nn f W1 (by omega) ((b1.cell (p := ⟨Bm, 0, none⟩) hBm).trans hm) (hmap.kept1 b1)
  have HM1 := Lib.hid M1
  clear hW1 M1 b1 hm hmap
  refine (callsIn_wide (n := 10)).1 (callsIn_of_wp_marks Tryz.func113 rfl trivial ?_ rfl)
  simp only [Tryz.ntmps113, List.size_toArray, List.length_cons, List.length_nil, Nat.reduceAdd, Nat.reduceSub, Array.replicate_succ, Array.replicate_zero, List.push_toArray, List.append_toArray, List.nil_append, List.cons_append]
  gi_wp2_with fail
  rw [HW1.out]
  refine wpIn_rangeFunc_ownH rfl (by omega) (gf := 95) (lb := #[.pointer (some ⟨Bm, 0, none⟩)]) rfl trivial (enters_of Tryz.func95 (by kernel_rfl) rfl)
    ST walksK_t walksK_b (Below.refl _ _) (fun _ => rfl)
    (fun pre W => ∃ v, AM w pre v W ∧ pre.length ≤ nn)
    (fun _ _ _ => False)
    (fun s A B row hs hg hr => hs.imp fun v h => ⟨h.1.other hg fun r e => ⟨by have := (hr r e).1; omega, (hr r e).2⟩, h.2⟩)
    (fun _ _ _ _ _ hs _ _ => hs)
    ⟨_, HM1.out, Nat.zero_le _⟩
    (fun x a' W => ∃ Bx, w.heap.size < Bx ∧ Blk Bx (chgC x) 61 W ∧ a' = { tmps := #[.slice none 0 0, .func (.func 95) #[] #[.pointer (some ⟨Bm, 0, none⟩)], .pointer (some ⟨w.heap.size, 0, none⟩), undef, .slice none 0 0, .pointer (some ⟨Bx, 0, none⟩), .func (.func 95) #[] #[.pointer (some ⟨Bm, 0, none⟩)], chgV x, undef, undef, undef, undef, undef], defers := [] })
    (fun x a' _ X Y row hs hg hr => by obtain ⟨Bx, h1, h2, h3⟩ := hs; exact ⟨Bx, h1, blk_other h2 hg (fun r e => (hr r e).2), h3⟩)
    ?assign ?body ?done ?stop
  case assign =>
    rintro l pre x W K ⟨v, hM, hl⟩ hK
    have hsb := hM.sb.lt
    gi_wp2
    exact hK _ _ ((KeepsOthers.alloc _ _).from _) (KeepsOthers.alloc _ _).walks ⟨v, hM.alloc _, hl⟩ ⟨W.heap.size, hsb, Blk.new _ _ W, rfl⟩
  case stop =>
    rintro D c pre W _ _ h _
    exact h.elim
  case body =>
    rintro l pre ⟨x1, x2⟩ a' W hl ⟨r, hr⟩ ⟨v, hM, hpl⟩ ⟨Bx, hBx, bX, rfl⟩ hlt
    have e0 : W.cell? ⟨Bx, 0, none⟩ = some (.int .i64 x1) := bX.cell 0
    have e1 : W.cell? ⟨Bx, 1, none⟩ = some (.string x2) := bX.cell 1
    obtain ⟨av, cv, hv, -⟩ := shape_of hM.row
    obtain ⟨n, hn⟩ : ∃ n, pre.length = n := ⟨_, rfl⟩
    rw [hn] at hv hpl hlt
    subst hv
    have l0 : W.cell? ⟨w.heap.size, 0, none⟩ = some (.slice av n cv) := hM.sb.cell 0
    have hszw : w.heap.size + 1 ≤ W.heap.size := hM.sb.lt
    obtain ⟨v2, w2, hrun, hown2, hg2⟩ := appC_run (ty := 62) (w.heap.size + 1) (.slice av n cv) pre (x1, x2) W hM.row (by omega) hszw
    have Ma := hM.alloc (.cells (chgC (x1, x2)) 61)
    have hput := Ma.put hown2 hg2
    obtain ⟨a2, n2, c2, rfl⟩ : ∃ a2 n2 c2, v2 = .slice a2 n2 c2 := by obtain ⟨a2, c2, e2, -⟩ := shape_of hown2; exact ⟨a2, _, c2, e2⟩
    have y0 : w2.cell? ⟨w.heap.size, 0, none⟩ = some (.slice av n cv) := hput.2.cell 0
    have y1 : w2.frozen? ⟨w.heap.size, 0, none⟩ = false := hput.2.frozen 0
    have HK : Hid (KeepsOthers W (w2.setCell ⟨w.heap.size, 0, none⟩ (.slice a2 n2 c2))) := Lib.hid (((KeepsOthers.alloc _ _).trans (keeps_row Ma.row hg2)).trans (KeepsOthers.setCell _ _ _))
    have HME := Lib.hid hput.1
    have HPL : Hid ((pre ++ [(x1, x2)]).length ≤ nn) := Lib.hid (by rw [List.length_append, hn]; simp; omega)
    have HRUN := Lib.hid hrun
    clear hM Ma hown2 hg2 hput bX hn hpl hr HM1 HW1 ST hrun
    refine wpIn_block ?_
    refine wpIn_round_list (by kernel_rfl) (noOut_block noOut_ownG) ?_
    go_wp2_with (at_builtin; refine wpList_run_app rfl _ _ _ rfl rfl rfl HRUN.out ?_)
    exact ⟨HK.out.from _, HK.out.walks, _, HME.out, HPL.out⟩
  case done =>
    rintro D xs W hD hxs ⟨v, hM, hl⟩ hK
    have hc : W.cell? ⟨w.heap.size, 0, none⟩ = some v := hM.sb.cell 0
    obtain ⟨av, cv, hv, -⟩ := shape_of hM.row
    have HM := Lib.hid hM
    have HLN : Hid (v = .slice av xs.length cv) := Lib.hid hv
    obtain ⟨n, hn⟩ : ∃ n, xs.length = n := ⟨_, rfl⟩
    rw [hn] at hv
    subst hv
    clear hM HM1 HW1 ST hn
    dsimp only
    gi_wp2
    refine ⟨by simp, .inl ⟨_, _, rfl, run_takeDeferred hK, ?_⟩⟩
    refine ⟨_, results_tmp rfl _ _ _, _, xs, rfl, hxs, hl, ?_, ?_⟩
    · exact row_down (by omega) (ownsRow_putObj HM.out.row _ hK rfl)
    · exact HM.out.below.trans (belowK_b (w := w) (Nat.le_refl _) W D _ _ (by omega) hK rfl rfl)
set_option maxHeartbeats 1000000 in
theorem collect_any (Bm m nn : Nat) (f : Int → Option ByteArray) (hnn : nn ≤ 1000000) (w : World) (hBm : Bm < w.heap.size) (hm : w.cell? ⟨Bm, 0, none⟩ = some (.map (some m))) (hmap : MapC m nn f w) :
    Calls Tryz.prog 93 #[.func (.func 95) #[] #[.pointer (some ⟨Bm, 0, none⟩)]] w fun e w' => ∃ v xs, e = .returned v ∧ AllOf f xs ∧ xs.length ≤ nn ∧ ChgsOwn w.heap.size v xs w' ∧ Below w.heap.size w w' := by
  have A := Lib.hid (appseq_any Bm m nn f hnn w hBm hm hmap)
  clear hBm hm hmap
  go_enter Tryz.func93, Tryz.ntmps93
  go_wp2_with fail
  refine A.out.mono ?_; rintro e w1 ⟨v, xs, rfl, h1, h2, h3, h4⟩
  obtain ⟨av, cv, rfl, -⟩ := shape_of h3
  have H := Lib.hid (And.intro h1 (And.intro h2 (And.intro h3 h4)))
  obtain ⟨n, hn⟩ : ∃ n, xs.length = n := ⟨_, rfl⟩
  rw [hn]
  have HN := Lib.hid hn
  clear h1 h2 h3 h4 hn
  go_wp2
  go_ret
  refine ⟨_, xs, rfl, H.out.1, H.out.2.1, ?_, H.out.2.2.2⟩
  have h : ∀ v, v = Value.slice av xs.length cv → ChgsOwn w.heap.size v xs w1 := fun v e => by rw [e]; exact H.out.2.2.1
  exact h _ (by rw [HN.out]; rfl)
theorem sorted_unique {s t : List (Int × ByteArray)} (hs : (s.map Prod.fst).Pairwise (· < ·)) (ht : (t.map Prod.fst).Pairwise (· < ·)) (hm : ∀ c, c ∈ s ↔ c ∈ t) : s = t := by
  induction s generalizing t with
  | nil =>
    cases t with
    | nil => rfl
    | cons d t => exact absurd ((hm d).2 (by simp)) (by simp)
  | cons c s ih =>
    cases t with
    | nil => exact absurd ((hm c).1 (by simp)) (by simp)
    | cons d t =>
      rw [List.map_cons, List.pairwise_cons] at hs ht
      have hlt : ∀ e ∈ s, c.1 < e.1 := fun e he => hs.1 _ (List.mem_map_of_mem he)
      have hlt2 : ∀ e ∈ t, d.1 < e.1 := fun e he => ht.1 _ (List.mem_map_of_mem he)
      have hcd : c = d := by
        rcases List.mem_cons.1 ((hm c).1 (by simp)) with h | h
        · exact h
        · rcases List.mem_cons.1 ((hm d).2 (by simp)) with h' | h'
          · exact h'.symm
          · have := hlt2 c h; have := hlt d h'; omega
      subst hcd
      rw [ih hs.2 ht.2 fun e => ?_]
      constructor
      · intro he
        rcases List.mem_cons.1 ((hm e).1 (by simp [he])) with h | h
        · subst h; have := hlt e he; omega
        · exact h
      · intro he
        rcases List.mem_cons.1 ((hm e).2 (by simp [he])) with h | h
        · subst h; have := hlt2 e he; omega
        · exact h
/-- all of f's changes, sorted, are those that it has, by ascending blocks -/
theorem sorted_all {n : Nat} {f : Int → Option ByteArray} {xs s : List (Int × ByteArray)} (h : AllOf f xs) (hp : s.Perm xs) (hs : ∀ i j, (hi : i < j) → (hj : j < s.length) → s[i].1 ≤ s[j].1) (hn : ∀ b d, f b = some d → 0 ≤ b ∧ b < (n : Int)) (hn2 : n ≤ 4096) : s = homeL n f := by
  have hnd : (s.map Prod.fst).Nodup := (hp.map Prod.fst).nodup_iff.2 h.1
  refine sorted_unique ?_ (homeL_up n) fun c => ?_
  · rw [List.pairwise_iff_getElem]
    intro i j hi hj hij
    rw [List.length_map] at hi hj
    rw [List.getElem_map, List.getElem_map]
    have h1 := hs i j hij hj
    have h2 := (List.pairwise_iff_getElem.1 hnd) i j (by rw [List.length_map]; exact hi) (by rw [List.length_map]; exact hj) hij
    rw [List.getElem_map, List.getElem_map] at h2
    omega
  · rw [hp.mem_iff]
    constructor
    · intro hc
      have h3 := h.2.2 c hc
      have h4 := hn _ _ h3.1
      unfold homeL
      refine List.mem_filterMap.2 ⟨c.1.toNat, List.mem_range.2 (by omega), ?_⟩
      rw [show ((c.1.toNat : Nat) : Int) = c.1 by omega, h3.1]; rfl
    · intro hc
      have h3 := homeL_below c hc
      have h5 := (h.2.1 c.1 ⟨by omega, by omega⟩).2 (by rw [h3.2.2]; rfl)
      obtain ⟨d, hd, he⟩ := List.mem_map.1 h5
      have h6 := (h.2.2 d hd).1
      rw [he, h3.2.2] at h6
      have : d = c := by
        cases d; cases c; injection h6 with h6
        simp at he h6; rw [he, h6]
      rw [← this]; exact hd
set_option maxHeartbeats 2000000 in
theorem sorted_any (n Bm m nn : Nat) (f : Int → Option ByteArray) (hn : ∀ b d, f b = some d → 0 ≤ b ∧ b < (n : Int)) (hn2 : n ≤ 4096) (hnn : nn ≤ 1000000) (w : World) (hBm : Bm < w.heap.size) (hm : w.cell? ⟨Bm, 0, none⟩ = some (.map (some m))) (hmap : MapC m nn f w) :
    Calls Tryz.prog 65 #[.func (.func 95) #[] #[.pointer (some ⟨Bm, 0, none⟩)], .func (.func 67) #[] #[]] w fun e w' => ∃ v, e = .returned v ∧ ChgsOwn w.heap.size v (homeL n f) w' ∧ Below w.heap.size w w' := by
  have A := Lib.hid (collect_any Bm m nn f hnn w hBm hm hmap)
  have HN := Lib.hid hn
  clear hBm hm hmap hn
  go_enter Tryz.func65, Tryz.ntmps65
  go_wp2_with fail
  refine A.out.mono ?_; rintro e w1 ⟨v, xs, rfl, h1, h2, h3, h4⟩
  by_cases h0 : xs.length = 0
  · have hxs := List.eq_nil_of_length_eq_zero h0
    subst hxs
    have e0 : ([] : List (Int × ByteArray)) = homeL n f := sorted_all h1 (List.Perm.refl _) (fun i j _ hj => absurd hj (by simp)) HN.out hn2
    obtain ⟨av, cv, rfl, -⟩ := shape_of h3
    have h3 : ChgsOwn w.heap.size (.slice av 0 cv) (homeL n f) w1 := by rw [← e0]; exact h3
    have S := Lib.hid (sortsCh_none av cv (.func (.func 67) #[] #[]) w1)
    have H3 : Hid (ChgsOwn w.heap.size (.slice av 0 cv) (homeL n f) w1) := Lib.hid h3
    clear h3 e0 h1 h2 A HN h0
    simp only [List.length_nil]
    go_wp2_with fail
    refine S.out.mono ?_; rintro e w2 ⟨rfl, rfl⟩
    go_wp2
    go_ret
    exact ⟨_, rfl, H3.out, h4⟩
  · obtain ⟨av, cv, rfl, c1, c2, h5⟩ := shape_of h3
    obtain ⟨g, rfl, hg1, hg2⟩ := h5 (by omega)
    have S := Lib.hid (sortsCh_some xs w.heap.size g cv w1 hg1 hg2 (by omega) h3)
    have H1 := Lib.hid h1
    obtain ⟨k, hk⟩ : ∃ k, xs.length = k := ⟨_, rfl⟩
    rw [hk] at S c1 ⊢
    clear h3 h1 h2 A h0 h5 hk
    go_wp2_with fail
    refine S.out.mono ?_; rintro e w2 ⟨rfl, s, hp, hs, hr, hb⟩
    have HR : Hid (ChgsOwn w.heap.size (.slice (some ⟨g, 0, none⟩) k cv) (homeL n f) w2) := Lib.hid (by rw [← sorted_all H1.out hp hs HN.out hn2]; exact hr)
    clear hr hp hs S
    go_wp2
    go_ret
    exact ⟨_, rfl, HR.out, h4.trans hb⟩
end Go.Proofs.YtanghmogeiiooaaGreatDoor

/- netEffect: what transactions come to. -/
namespace Go.Proofs.YtanghmogeiiooaaGreatDoor
set_option linter.unusedVariables false
set_option linter.unusedSimpArgs false
open Go.RowKit

/-- v is a slice of transactions, wherever it lies -/
def TxnsIn (v : Value) (ts : List Tx) (w : World) : Prop :=
  ∃ vs : List (Value × Value), vs.length = ts.length ∧ RowIn 2 v ts.length (vs.flatMap fun p => [p.1, p.2]) w ∧ ∀ k (h1 : k < vs.length) (h2 : k < ts.length), ChgsIn vs[k].1 ts[k].changes w ∧ IntsIn vs[k].2 ts[k].revokes w
theorem TxnsOwn.in_ {B : Nat} {v : Value} {ts : List Tx} {w : World} (h : TxnsOwn B v ts w) : TxnsIn v ts w := by
  obtain ⟨vs, h1, h2, h3⟩ := h
  exact ⟨vs, h1, ownRow_in h2, fun k a b => ⟨ownRow_in (h3 k a b).1, own_in (h3 k a b).2⟩⟩
theorem pairs_at : ∀ (vs : List (Value × Value)) (k : Nat) (hk : k < vs.length), (vs.flatMap fun p => [p.1, p.2])[2 * k]? = some vs[k].1 ∧ (vs.flatMap fun p => [p.1, p.2])[2 * k + 1]? = some vs[k].2
  | c :: vs, 0, _ => ⟨rfl, rfl⟩
  | c :: vs, k + 1, hk => by
    have := pairs_at vs k (by simpa using hk)
    exact ⟨this.1, this.2⟩
theorem TxnsIn.open {v : Value} {ts : List Tx} {w : World} (h : TxnsIn v ts w) : ∃ ad cap, v = .slice ad ts.length cap ∧ ts.length ≤ cap ∧ cap ≤ 9223372036854775807 ∧
    (0 < ts.length → ∃ g o, ad = some ⟨g, o, none⟩ ∧ g < w.heap.size ∧ ∀ k (hk : k < ts.length), ∃ v1 v2, w.cell? ⟨g, o + k * 2, none⟩ = some v1 ∧ w.cell? ⟨g, o + k * 2 + 1, none⟩ = some v2 ∧ ChgsIn v1 ts[k].changes w ∧ IntsIn v2 ts[k].revokes w) := by
  obtain ⟨vs, hl, hr, hk⟩ := h
  have h0 := hr.1
  obtain ⟨ad, cap, e, h1, h2, h3, -⟩ := hr.shape
  refine ⟨ad, cap, e, h1, h2, fun hp => ?_⟩
  obtain ⟨g, o, e2, hg, hc⟩ := h3 (by omega)
  refine ⟨g, o, e2, hg, fun k hk2 => ?_⟩
  have := pairs_at vs k (by omega)
  exact ⟨_, _, by rw [show o + k * 2 = o + 2 * k by omega]; exact hc _ _ this.1, by rw [show o + k * 2 + 1 = o + (2 * k + 1) by omega]; exact hc _ _ this.2, hk k (by omega) hk2⟩
theorem net_take {ts : List Tx} {k : Nat} (hk : k < ts.length) : net (ts.take (k + 1)) = netT (net (ts.take k)) ts[k] := by
  rw [List.take_succ_eq_append_getElem hk, net_snoc]
theorem fold_take {α β : Type} (g : β → α → β) (b : β) {l : List α} {k : Nat} (hk : k < l.length) : (l.take (k + 1)).foldl g b = g ((l.take k).foldl g b) l[k] := by
  rw [List.take_succ_eq_append_getElem hk, List.foldl_append]; rfl
theorem turn_below {B m : Nat} {w0 w w' : World} (h : Below B w0 w) (hg : w.grownBy w' (some m)) (hB : B ≤ m) (hs : B ≤ w0.heap.size) : Below B w0 w' := h.grown hg (Nat.le_trans hs h.size) fun k e => by cases e; exact hB
theorem turn_blk {m g : Nat} {cs : Array Value} {t : TypeId} {w w' : World} (h : Blk g cs t w) (hg : w.grownBy w' (some m)) (hne : g ≠ m) : Blk g cs t w' := (hg.block g h.lt fun e => hne (by injection e)).trans h
set_option maxRecDepth 100000 in
set_option maxHeartbeats 8000000 in
theorem neteffect_any (n : Nat) (hn2 : n ≤ 4096) (ts : List Tx) (hts : ts.length ≤ 600) (hch : ∀ t ∈ ts, t.changes.length ≤ 600 ∧ t.revokes.length ≤ 1000000 ∧ (∀ c ∈ t.changes, 0 ≤ c.1 ∧ c.1 < (n : Int)) ∧ ∀ x ∈ t.revokes, I64 x) (v : Value) (w : World) (hv : TxnsIn v ts w) :
    Calls Tryz.prog 39 #[v] w fun e w' => ∃ v', e = .returned v' ∧ ChgsOwn w.heap.size v' (homeL n (net ts)) w' ∧ Below w.heap.size w w' := by
  have gc : Tryz.prog.stoodInHeld 61 = false := by kernel_rfl
  have gt : Tryz.prog.stoodInHeld 64 = false := by kernel_rfl
  obtain ⟨ad, cap, rfl, h1, h2, h3⟩ := hv.open
  have H3 := Lib.hid h3
  have HCH : Hid (∀ k (hk : k < ts.length), ts[k].changes.length ≤ 600 ∧ ts[k].revokes.length ≤ 1000000 ∧ (∀ c ∈ ts[k].changes, 0 ≤ c.1 ∧ c.1 < (n : Int)) ∧ ∀ x ∈ ts[k].revokes, I64 x) := Lib.hid fun k hk => hch _ (List.getElem_mem hk)
  have HDOM : Hid (∀ b d, net ts b = some d → 0 ≤ b ∧ b < (n : Int)) := Lib.hid fun b d h => by
    obtain ⟨t, ht, hb⟩ := net_mem h
    obtain ⟨c, hc, rfl⟩ := List.mem_map.1 hb
    exact (hch t ht).2.2.1 c hc
  have HNT := Lib.hid fun k (hk : k < ts.length) => net_take hk
  have HM0 : Hid (MapC w.heap.size 0 (net (ts.take 0)) (w.alloc (.map #[] 0))) := Lib.hid (MapC.made w)
  have HB0 : Hid (Below w.heap.size w (w.alloc (.map #[] 0))) := Lib.hid (balloc1 w _)
  have hmm := @run_makeMap Tryz.prog
  clear h3 hv hch
  go_enter Tryz.func39, Tryz.ntmps39
  go_wp2
  go_loopw [13] (fun q wr => ∃ (k N : Nat), q = .int .i64 k ∧ k ≤ ts.length ∧ N ≤ 600 * k ∧ MapC w.heap.size N (net (ts.take k)) wr ∧ Below w.heap.size w wr) (fun q _ => ts.length - (intOf q).toNat)
  case atStart => exact ⟨0, 0, rfl, Nat.zero_le _, by omega, HM0.out, HB0.out⟩
  case round =>
    clear HM0 HB0 hmm
    obtain ⟨k, N, rfl, hk, hN, hM, hB⟩ := hrel
    have hlm := hM.lt
    by_cases hlt : k < ts.length
    · obtain ⟨g, o, rfl, hg, hc⟩ := H3.out (by omega)
      obtain ⟨v1, v2, e0, e1, hci, hii⟩ := hc k hlt
      obtain ⟨q1, q2, q3, q4⟩ := HCH.out k hlt
      have HNX := Lib.hid (HNT.out k hlt)
      obtain ⟨⟨CL, RL⟩, ht⟩ : ∃ t, ts[k] = t := ⟨_, rfl⟩
      rw [ht] at hci hii q1 q2 q3 q4 HNX
      dsimp only at hci hii q1 q2 q3 q4
      have e0 := (hB.cell (p := ⟨g, o + k * 2, none⟩) hg).trans e0
      have e1 := (hB.cell (p := ⟨g, o + k * 2 + 1, none⟩) hg).trans e1
      obtain ⟨a1, c1, rfl, f1, f2, f3⟩ := hci.open
      obtain ⟨a2, c2, rfl, i1, i2, i3, -⟩ := hii.shape
      have F3 := Lib.hid f3
      have I3 := Lib.hid (row_cells i3)
      have HQ3 : Hid (∀ j (hj : j < CL.length), 0 ≤ CL[j].1 ∧ CL[j].1 < (n : Int)) := Lib.hid fun j hj => q3 _ (List.getElem_mem hj)
      have HQ4 : Hid (∀ j (hj : j < RL.length), I64 RL[j]) := Lib.hid fun j hj => q4 _ (List.getElem_mem hj)
      obtain ⟨F, hF⟩ : ∃ F, net (ts.take k) = F := ⟨_, rfl⟩
      rw [hF] at hM HNX
      obtain ⟨W1, hW1⟩ : ∃ W1, wr.alloc (.cells #[.slice a1 CL.length c1, .slice a2 RL.length c2] 64) = W1 := ⟨_, rfl⟩
      obtain ⟨tb, htb⟩ : ∃ tb, wr.heap.size = tb := ⟨_, rfl⟩
      have M1 : MapC w.heap.size N F W1 := by rw [← hW1]; exact hM.kept1 (balloc1 _ _)
      have T1 : Blk tb #[.slice a1 CL.length c1, .slice a2 RL.length c2] 64 W1 := by rw [← hW1, ← htb]; exact Blk.new _ _ _
      have B1 : Below w.heap.size w W1 := by rw [← hW1]; exact balloc hB _
      have s0 := T1.cell 0
      have s1 := T1.cell 1
      simp only [List.getElem?_toArray, List.getElem?_cons_zero, List.getElem?_cons_succ] at s0 s1
      have htm : w.heap.size < tb := by omega
      have HW1 := Lib.hid hW1
      have HTB := Lib.hid htb
      have HM1 := Lib.hid M1
      have HT1 := Lib.hid T1
      have HB1 := Lib.hid B1
      clear hc hci hii f3 i3 q3 q4 hM hB hF hW1 htb M1 T1 B1 ht H3
      go_wp2_with fail
      try rw [HW1.out]
      try rw [HTB.out]
      go_loopw [20] (fun q w2 => ∃ j : Nat, q = .int .i64 j ∧ j ≤ CL.length ∧ MapC w.heap.size (N + j) ((CL.take j).foldl putC F) w2 ∧ Blk tb #[.slice a1 CL.length c1, .slice a2 RL.length c2] 64 w2 ∧ Below w.heap.size w w2) (fun q _ => CL.length - (intOf q).toNat)
      case atStart => exact ⟨0, rfl, Nat.zero_le _, HM1.out, HT1.out, HB1.out⟩
      case round =>
        clear HM1 HT1 HB1 s0 s1 HW1 HTB
        obtain ⟨j, rfl, hj, hM, hT, hB⟩ := hrel
        by_cases hjl : j < CL.length
        · obtain ⟨g2, o2, rfl, hg2, hc2⟩ := F3.out (by omega)
          obtain ⟨e2, e3⟩ := hc2 j hjl
          have e2 := (hB.cell (p := ⟨g2, o2 + j * 2, none⟩) hg2).trans e2
          have e3 := (hB.cell (p := ⟨g2, o2 + j * 2 + 1, none⟩) hg2).trans e3
          have hb := HQ3.out j hjl
          have HFN := Lib.hid (fold_take putC F hjl)
          generalize CL[j] = c at *
          obtain ⟨cx, cs⟩ := c
          dsimp only at *
          have HM2 := Lib.hid fun (o : Obj) => hM.kept1 (balloc1 _ o)
          have HT2 := Lib.hid fun (o : Obj) => hT.kept1 (balloc1 _ o)
          have HB2 := Lib.hid fun (o : Obj) => balloc hB o
          generalize (CL.take j).foldl putC F = G at *
          clear hc2 hM hT hB F3
          go_wp2_with (refine wpList_cPut rfl _ _ _ rfl (HM2.out _) (by omega) cx ⟨by omega, by omega⟩ cs rfl rfl rfl ?_)
          intro w5 hm5 hg5
          have HN : Hid (MapC w.heap.size (N + (j + 1)) ((CL.take (j + 1)).foldl putC F) w5) := Lib.hid (by rw [HFN.out]; exact hm5)
          have HT5 := Lib.hid (turn_blk (HT2.out _) hg5 (by omega))
          have HB5 := Lib.hid (turn_below (HB2.out _) hg5 (Nat.le_refl _) (Nat.le_refl _))
          clear hm5 hg5 HM2 HT2 HB2 e2 e3 HFN
          go_wp2
          exact ⟨⟨j + 1, by go_num, by omega, HN.out, HT5.out, HB5.out⟩, by simp [intOf]; omega⟩
        · obtain rfl : j = CL.length := by omega
          rw [List.take_length] at hM
          have s1 := hT.cell 1
          simp only [List.getElem?_toArray, List.getElem?_cons_zero, List.getElem?_cons_succ] at s1
          have HM3 := Lib.hid hM
          have HT3 := Lib.hid hT
          have HB3 := Lib.hid hB
          clear hM hT hB F3
          go_wp2_with fail
          go_loopw [32] (fun q w2 => ∃ j : Nat, q = .int .i64 j ∧ j ≤ RL.length ∧ MapC w.heap.size (N + CL.length) ((RL.take j).foldl delC (CL.foldl putC F)) w2 ∧ Below w.heap.size w w2) (fun q _ => RL.length - (intOf q).toNat)
          case atStart => exact ⟨0, rfl, Nat.zero_le _, HM3.out, HB3.out⟩
          case round =>
            clear HM3 HT3 HB3 s1
            obtain ⟨j, rfl, hj, hM, hB⟩ := hrel
            by_cases hjl : j < RL.length
            · obtain ⟨g2, o2, rfl, hg2, hc2⟩ := I3.out (by omega)
              have e2 := (hB.cell (p := ⟨g2, o2 + j, none⟩) hg2).trans (hc2 j hjl)
              have hb := HQ4.out j hjl
              have HFN := Lib.hid (fold_take delC (CL.foldl putC F) hjl)
              generalize RL[j] = x at *
              have HM2 := Lib.hid hM
              have HB2 := Lib.hid hB
              clear hc2 hM hB I3
              go_wp2_with (refine wpList_cDel rfl _ _ rfl HM2.out x hb rfl rfl ?_)
              intro w5 hm5 hg5
              have HN : Hid (MapC w.heap.size (N + CL.length) ((RL.take (j + 1)).foldl delC (CL.foldl putC F)) w5) := Lib.hid (by rw [HFN.out]; exact hm5)
              have HB5 := Lib.hid (turn_below HB2.out hg5 (Nat.le_refl _) (Nat.le_refl _))
              clear hm5 hg5 HM2 HB2 e2 HFN
              go_wp2
              exact ⟨⟨j + 1, by go_num, by omega, HN.out, HB5.out⟩, by simp [intOf]; omega⟩
            · obtain rfl : j = RL.length := by omega
              rw [List.take_length] at hM
              have HN : Hid (MapC w.heap.size (N + CL.length) (net (ts.take (k + 1))) _) := Lib.hid (by rw [HNX.out]; exact hM)
              have HB := Lib.hid hB
              clear hM hB I3
              go_wp2
              exact ⟨⟨k + 1, N + CL.length, by go_num, by omega, by omega, HN.out, HB.out⟩, by simp [intOf]; omega⟩
    · obtain rfl : k = ts.length := by omega
      rw [List.take_length] at hM
      have V := Lib.hid (cvalues_any w.heap.size wr)
      have HM3 := Lib.hid hM
      have HB3 := Lib.hid hB
      clear hM hB H3
      go_wp2_with fail
      refine V.out.mono ?_; rintro e w5 ⟨rfl, hw5⟩
      have b5 : Below wr.heap.size wr w5 := by rw [hw5]; exact balloc1 _ _
      have hbx : w5.cell? ⟨wr.heap.size, 0, none⟩ = some (.map (some w.heap.size)) := by rw [hw5]; exact (Blk.new #[.map (some w.heap.size)] 126 wr).cell 0
      have SO := Lib.hid (sorted_any n wr.heap.size w.heap.size N (net ts) HDOM.out hn2 (by omega) w5 (by rw [hw5, size_alloc]; omega) hbx (HM3.out.kept1 b5))
      have HB5 := Lib.hid (bnext HB3.out b5)
      clear hw5 b5 hbx HM3 HB3 V
      go_wp2_with fail
      refine SO.out.mono ?_; rintro e w6 ⟨v6, rfl, hv6, b6⟩
      obtain ⟨a6, c6, rfl, -⟩ := shape_of hv6
      have HV6 := Lib.hid (row_down HB5.out.size hv6)
      have HB6 := Lib.hid (bnext HB5.out b6)
      have HLN : Hid ((homeL n (net ts)).length = (homeL n (net ts)).length) := Lib.hid rfl
      clear hv6 b6 SO HB5
      obtain ⟨m6, hm6⟩ : ∃ m6, (homeL n (net ts)).length = m6 := ⟨_, rfl⟩
      have HV7 : Hid (∀ u, u = Value.slice a6 m6 c6 → ChgsOwn w.heap.size u (homeL n (net ts)) w6) := Lib.hid fun u e => by rw [e, ← hm6]; exact HV6.out
      rw [hm6]
      clear HV6 HLN hm6
      go_wp2
      go_ret
      exact ⟨_, rfl, HV7.out _ rfl, HB6.out⟩
end Go.Proofs.YtanghmogeiiooaaGreatDoor
