import Derived.Test.YtanghmogeiiooaaGreatDoorPa28
import Derived.Test.YtanghmogeiiooaaGreatDoorPa04
import Derived.Test.YtanghmogeiiooaaGreatDoorPa08
import Derived.RangeFuncMany
import Derived.Test.YtanghmogeiiooaaGreatDoorPa06
set_option linter.unusedVariables false
set_option linter.unusedSimpArgs false
set_option linter.constructorNameAsVariable false
/- slices.Chunk: its iterator, for every loop body. -/
namespace Go.Proofs.YtanghmogeiiooaaGreatDoor
set_option linter.unusedVariables false
set_option linter.unusedSimpArgs false
open Go.RowKit Go.Shelf

/-- the k-th group, and those ahead of it -/
def grp {α : Type} (m : Nat) (L : List α) (k : Nat) : List α := (L.drop (k * m)).take m
def grps {α : Type} (m : Nat) (L : List α) (k : Nat) : List (List α) := (List.range k).map (grp m L)
theorem grps_succ {α : Type} (m : Nat) (L : List α) (k : Nat) : grps m L (k + 1) = grps m L k ++ [grp m L k] := by unfold grps; rw [List.range_succ, List.map_append]; rfl
theorem grps_length {α : Type} (m : Nat) (L : List α) (k : Nat) : (grps m L k).length = k := by unfold grps; simp
theorem grp_length {α : Type} (m : Nat) (L : List α) (k : Nat) : (grp m L k).length = min m (L.length - k * m) := by unfold grp; rw [List.length_take, List.length_drop]
theorem grp_drop {α : Type} (m : Nat) (L : List α) (k : Nat) : grp m (L.drop m) k = grp m L (k + 1) := by
  unfold grp; rw [List.drop_drop]; congr 2; rw [Nat.add_mul]; omega
theorem chunksF_nil {α : Type} (m f : Nat) : chunksF m f ([] : List α) = [] := by cases f <;> rfl
theorem grps_chunksF {α : Type} {m : Nat} (hm : 0 < m) : ∀ (f : Nat) (L : List α) (K : Nat), L.length ≤ f → L.length ≤ K * m → (0 < K → (K - 1) * m < L.length) → grps m L K = chunksF m f L
  | f, L, 0, hf, h1, _ => by
    obtain rfl : L = [] := List.eq_nil_of_length_eq_zero (by omega)
    rw [chunksF_nil]; rfl
  | 0, L, K + 1, hf, h1, h2 => by
    have := h2 (by omega); omega
  | f + 1, L, K + 1, hf, h1, h2 => by
    have h3 := h2 (by omega)
    cases L with
    | nil => simp at h3
    | cons a l =>
      have ih := grps_chunksF hm f ((a :: l).drop m) K (by rw [List.length_drop]; simp at hf ⊢; omega) (by rw [List.length_drop]; rw [Nat.add_mul] at h1; omega) (fun hK => by
        rw [List.length_drop]
        obtain ⟨K', rfl⟩ : ∃ K', K = K' + 1 := ⟨K - 1, by omega⟩
        rw [show K' + 1 + 1 - 1 = K' + 1 by omega, Nat.add_mul] at h3
        rw [show K' + 1 - 1 = K' by omega]; omega)
      show _ = (a :: l).take m :: chunksF m f ((a :: l).drop m)
      rw [← ih]
      unfold grps
      rw [List.range_succ_eq_map, List.map_cons, List.map_map]
      have e0 : grp m (a :: l) 0 = (a :: l).take m := by unfold grp; rw [Nat.zero_mul, List.drop_zero]
      rw [e0]
      congr 1
      apply List.map_congr_left
      intro k _
      exact (grp_drop m (a :: l) k).symm
theorem grps_all {α : Type} {m : Nat} (hm : 0 < m) (L : List α) {K : Nat} (h1 : L.length ≤ K * m) (h2 : 0 < K → (K - 1) * m < L.length) : grps m L K = chunks m L := grps_chunksF hm _ L K (Nat.le_refl _) h1 h2

/-- a part of a row that lies somewhere -/
theorem RowIn.part {z : Nat} {v : Value} {n : Nat} {cs : List Value} {w : World} (h : RowIn z v n cs w) {ad : Option Addr} {cap : Nat} (hv : v = .slice ad n cap) {g o : Nat} (ha : ad = some ⟨g, o, none⟩) {p q : Nat} (hpq : p + q ≤ n) (hq : 0 < q) :
    RowIn z (.slice (some ⟨g, o + p * z, none⟩) q q) q ((cs.drop (p * z)).take (q * z)) w := by
  obtain ⟨h0, ad', cap', e, h1, h2, h3, h4⟩ := h
  subst hv
  injection e with e1 e2 e3
  subst e1; subst ha; subst e3
  have hz : (p + q) * z ≤ n * z := Nat.mul_le_mul_right z hpq
  rw [Nat.add_mul] at hz
  refine ⟨by rw [List.length_take, List.length_drop]; omega, _, _, rfl, Nat.le_refl _, by omega, fun hp => ?_, fun e => by cases e⟩
  rw [List.length_take, List.length_drop] at hp
  obtain ⟨g', o', e, hg, hc⟩ := h3 (by omega)
  cases e
  refine ⟨_, _, rfl, hg, fun k u hk => ?_⟩
  have hlt : k < q * z := by
    have := (List.getElem?_eq_some_iff.1 hk).1
    rw [List.length_take] at this; omega
  rw [List.getElem?_take_of_lt hlt, List.getElem?_drop] at hk
  have := hc _ _ hk
  rw [show o + p * z + k = o + (p * z + k) by omega]; exact this
end Go.Proofs.YtanghmogeiiooaaGreatDoor

/- slices.Chunk's iterators walked. -/
namespace Go.Proofs.YtanghmogeiiooaaGreatDoor
set_option linter.unusedVariables false
set_option linter.unusedSimpArgs false
open Go.RowKit Go.Shelf
attribute [local go_sem] Oper.semAt_some

/-- what a round keeps: all that lies below n₀, and two boxes -/
def KpC (n₀ Bs Bn : Nat) (W W' : World) : Prop := Below n₀ W W' ∧ (Bs < W.heap.size → W'.heap[Bs]? = W.heap[Bs]?) ∧ (Bn < W.heap.size → W'.heap[Bn]? = W.heap[Bn]?)
theorem KpC.refl (n₀ Bs Bn : Nat) (W : World) : KpC n₀ Bs Bn W W := ⟨Below.refl _ _, fun _ => rfl, fun _ => rfl⟩
theorem KpC.trans {n₀ Bs Bn : Nat} {A B C : World} (h : KpC n₀ Bs Bn A B) (k : KpC n₀ Bs Bn B C) : KpC n₀ Bs Bn A C :=
  ⟨h.1.trans k.1, fun q => (k.2.1 (Nat.lt_of_lt_of_le q h.1.size)).trans (h.2.1 q), fun q => (k.2.2 (Nat.lt_of_lt_of_le q h.1.size)).trans (h.2.2 q)⟩
theorem KpC.put {n₀ Bs Bn : Nat} {w : World} (hn : n₀ ≤ w.heap.size) (h1 : Bs < w.heap.size) (h2 : Bn < w.heap.size) (W : World) (l : Nat) (o o' : Obj) (hl : w.heap.size ≤ l) (h : W.heap[l]? = some o) (a : o.isCells = false) (b : o.isWalk = false) : KpC n₀ Bs Bn W (W.putObj l o') :=
  ⟨belowK_b hn W l o o' hl h a b, fun _ => World.putObj_heap_other (by omega), fun _ => World.putObj_heap_other (by omega)⟩
/-- groups of a row that lies in W0 -/
abbrev CkI (Pr : List Int → Prop) (W0 : World) := { p : Value × List Int // IntsIn p.1 p.2 W0 ∧ Pr p.2 }
theorem chunkI_any (ad : Option Addr) (len cap m : Nat) (hm : 0 < m) (hm2 : m ≤ 1000) (w : World) :
    Calls Tryz.prog 76 #[.slice ad len cap, .int .i64 (m : Int)] w fun e w' => e = .returned (.func (.func 101) #[] #[.pointer (some ⟨w.heap.size, 0, none⟩), .pointer (some ⟨w.heap.size + 1, 0, none⟩)]) ∧ w' = (w.alloc (.cells #[.slice ad len cap] 56)).alloc (.cells #[.int .i64 (m : Int)] 3) := by
  have t1 : decide ((m : Int) < 1) = false := decide_eq_false (by omega)
  go_enter Tryz.func76, Tryz.ntmps76
  go_wp2
  go_ret
  exact ⟨rfl, rfl⟩
set_option maxRecDepth 100000 in
set_option maxHeartbeats 4000000 in
theorem chunkI_in (n l Bs Bn n₀ m : Nat) (hm : 0 < m) (hm2 : m ≤ 1000) (R : List Int) (hR : R.length ≤ 4000000) (Pr : List Int → Prop) (hPr : ∀ k, k * m < R.length → Pr (grp m R k)) (W0 : World) (hn₀ : n₀ = W0.heap.size) (ad : Option Addr) (cap : Nat) (hv : IntsIn (.slice ad R.length cap) R W0) (J Jx : List (CkI Pr W0) → World → Prop) (hJa : ∀ s A q, J s A → J s (A.drewN q))
    (hY : ∀ pre x W, J pre W → pre.length < R.length → YieldAt Fence.wide (n - 1) Tryz.prog l #[x.1.1] W fun e W' =>
      (e = .returned (.bool true) ∧ J (pre ++ [x]) W' ∧ KpC n₀ Bs Bn W W') ∨ (e = .returned (.bool false) ∧ Jx (pre ++ [x]) W'))
    (W : World) (hBs : W.cell? ⟨Bs, 0, none⟩ = some (.slice ad R.length cap)) (hBn : W.cell? ⟨Bn, 0, none⟩ = some (.int .i64 (m : Int))) (h0 : J [] W) :
    CallsIn Fence.wide n Tryz.prog 101 #[.func (.yield l) #[] #[], .pointer (some ⟨Bs, 0, none⟩), .pointer (some ⟨Bn, 0, none⟩)] W fun e W' => (∃ v, e = .returned v) ∧
      ((∃ xs, (xs.map fun x : CkI Pr W0 => x.1.2) = chunks m R ∧ J xs W') ∨ (∃ pre : List (CkI Pr W0), True ∧ Jx pre W')) := by
  have mixed : Tryz.prog.follows .mixedOrders = true := by kernel_rfl
  obtain ⟨ad', cap', e', hc1, hc2, hc3, -⟩ := hv.shape
  injection e' with e1 _ e3
  subst e1; subst e3
  have HV := Lib.hid hv
  have HBS := Lib.hid hBs
  have HBN := Lib.hid hBn
  have HLS := (cell_flat hBs).2
  have HLN := (cell_flat hBn).2
  have HPRA := Lib.hid hPr
  clear hv hBs hBn hPr
  refine callsIn_of_wp Tryz.func101 rfl trivial ?_ rfl
  simp only [Tryz.ntmps101, List.size_toArray, List.length_cons, List.length_nil, Nat.reduceAdd, Nat.reduceSub, Array.replicate_succ, Array.replicate_zero, List.push_toArray, List.append_toArray, List.nil_append, List.cons_append]
  gi_wp2
  gi_loopw [4] (fun i wr => ∃ (k : Nat) (pre : List (CkI Pr W0)), i = .int .i64 ((k * m : Nat) : Int) ∧ (pre.map fun x : CkI Pr W0 => x.1.2) = grps m R k ∧ (0 < k → (k - 1) * m < R.length) ∧ J pre wr ∧ KpC n₀ Bs Bn W wr) (fun i _ => R.length - (intOf i).toNat)
  case atStart => exact ⟨0, [], by simp, rfl, fun h => absurd h (by omega), h0, KpC.refl _ _ _ _⟩
  case round =>
    clear h0
    obtain ⟨k, pre, rfl, hp, hk, hJ, hK⟩ := hrel
    have c1 : wr.cell? ⟨Bs, 0, none⟩ = some (.slice ad R.length cap) := (World.cell?_of_block (a := ⟨Bs, 0, none⟩) (hK.2.1 HLS)).trans HBS.out
    have c2 : wr.cell? ⟨Bn, 0, none⟩ = some (.int .i64 (m : Int)) := (World.cell?_of_block (a := ⟨Bn, 0, none⟩) (hK.2.2 HLN)).trans HBN.out
    obtain ⟨q0, hq0⟩ : ∃ q0, k * m = q0 := ⟨_, rfl⟩
    have hpl : pre.length = k := by have := congrArg List.length hp; rw [List.length_map, grps_length] at this; exact this
    have hkq : k ≤ q0 := by rw [← hq0]; exact Nat.le_mul_of_pos_right k hm
    have hgs := grps_succ m R k
    have hgl := grp_length m R k
    rw [hq0] at hgl ⊢
    have hnx : (k + 1) * m = q0 + m := by rw [Nat.add_mul, hq0]; omega
    by_cases hlt : q0 < R.length
    · obtain ⟨g, o, rfl, hg, -⟩ := hc3 (by rw [List.length_map]; omega)
      by_cases hmm : m < R.length - q0
      · have hpart := HV.out.part rfl rfl (p := q0) (q := m) (by omega) hm
        rw [Nat.mul_one, Nat.mul_one, ← List.map_drop, ← List.map_take] at hpart
        have hx : IntsIn (.slice (some ⟨g, o + q0, none⟩) m m) (grp m R k) W0 := by
          unfold IntsIn; rw [hgl, Nat.min_eq_left (by omega)]; unfold grp; rw [hq0]; exact hpart
        have HGS := Lib.hid hgs
        have HNX := Lib.hid hnx
        have HP := Lib.hid hp
        have HQ := Lib.hid hq0
        have HPL := Lib.hid hpl
        have HX := Lib.hid hx
        have HPR := Lib.hid (HPRA.out k (by rw [hq0]; exact hlt))
        have HJ := Lib.hid hJ
        have HY := Lib.hid hY
        have HK := Lib.hid hK
        clear hpart hY hgl hgs hnx hp hq0 hpl hx hJ hK
        gi_wp2
        refine wpIn_wide.2 ?_
        go_quiet (fail)
        have hif : (if R.length - q0 < m then ((R.length - q0 : Nat) : Int) else (m : Int)) = ((m : Nat) : Int) := by split <;> omega
        try rw [hif]
        clear hif
        obtain ⟨x, hxe⟩ : ∃ x : CkI Pr W0, x = ⟨(.slice (some ⟨g, o + q0, none⟩) (m) (m), grp m R k), HX.out, HPR.out⟩ := ⟨_, rfl⟩
        have hx1 : x.1.1 = .slice (some ⟨g, o + q0, none⟩) (m) (m) := by rw [hxe]
        have HX2 : Hid (x.1.2 = grp m R k) := Lib.hid (by rw [hxe])
        obtain ⟨fn, tmps, assign, body, hy, hR⟩ := HY.out pre x (wr.drewN nq) (hJa _ _ _ HJ.out) (by have := HPL.out; omega)
        rw [hx1] at hy
        have HR := Lib.hid hR
        clear hR hxe hx1 HX HY HJ
        gi_wp2
        refine ⟨fun h => (by cases h), HR.out.mono ?_⟩
        rintro e W3 (⟨rfl, hJ3, hk3⟩ | ⟨rfl, hJx3⟩)
        · have HJ3 := Lib.hid hJ3
          have HK3 : Hid (KpC n₀ Bs Bn W W3) := Lib.hid (HK.out.trans (KpC.trans (show KpC n₀ Bs Bn wr (wr.drewN nq) from ⟨⟨rfl, rfl, rfl, Nat.le_refl _, fun _ _ => rfl⟩, fun _ => rfl, fun _ => rfl⟩) hk3))
          have d2 : W3.cell? ⟨Bn, 0, none⟩ = some (.int .i64 (m : Int)) := (World.cell?_of_block (a := ⟨Bn, 0, none⟩) (HK3.out.2.2 HLN)).trans HBN.out
          clear hJ3 hk3 HR HK
          gi_wp2
          go_roundw
          case rel => exact ⟨k + 1, pre ++ [x], by rw [HNX.out]; simp, by rw [List.map_append, HP.out, HGS.out, List.map_cons, List.map_nil, HX2.out], fun _ => by rw [Nat.add_sub_cancel, HQ.out]; exact hlt, HJ3.out, HK3.out⟩
          case measure => simp [intOf]; omega
        · gi_wp2
          refine bodyPost_ret (results_none rfl _ _ _) rfl ?_
          exact ⟨⟨_, rfl⟩, .inr ⟨_, trivial, hJx3⟩⟩
      · have hpart := HV.out.part rfl rfl (p := q0) (q := R.length - q0) (by omega) (by omega)
        rw [Nat.mul_one, Nat.mul_one, ← List.map_drop, ← List.map_take] at hpart
        have hx : IntsIn (.slice (some ⟨g, o + q0, none⟩) (R.length - q0) (R.length - q0)) (grp m R k) W0 := by
          unfold IntsIn; rw [hgl, Nat.min_eq_right (by omega)]; unfold grp; rw [hq0, List.take_of_length_le (l := R.drop q0) (i := m) (by rw [List.length_drop]; omega)]
          rw [List.take_of_length_le (l := R.drop q0) (by rw [List.length_drop]; omega)] at hpart; exact hpart
        have HGS := Lib.hid hgs
        have HNX := Lib.hid hnx
        have HP := Lib.hid hp
        have HQ := Lib.hid hq0
        have HPL := Lib.hid hpl
        have HX := Lib.hid hx
        have HPR := Lib.hid (HPRA.out k (by rw [hq0]; exact hlt))
        have HJ := Lib.hid hJ
        have HY := Lib.hid hY
        have HK := Lib.hid hK
        clear hpart hY hgl hgs hnx hp hq0 hpl hx hJ hK
        gi_wp2
        refine wpIn_wide.2 ?_
        go_quiet (fail)
        have hif : (if R.length - q0 < m then ((R.length - q0 : Nat) : Int) else (m : Int)) = ((R.length - q0 : Nat) : Int) := by split <;> omega
        try rw [hif]
        clear hif
        obtain ⟨x, hxe⟩ : ∃ x : CkI Pr W0, x = ⟨(.slice (some ⟨g, o + q0, none⟩) (R.length - q0) (R.length - q0), grp m R k), HX.out, HPR.out⟩ := ⟨_, rfl⟩
        have hx1 : x.1.1 = .slice (some ⟨g, o + q0, none⟩) (R.length - q0) (R.length - q0) := by rw [hxe]
        have HX2 : Hid (x.1.2 = grp m R k) := Lib.hid (by rw [hxe])
        obtain ⟨fn, tmps, assign, body, hy, hR⟩ := HY.out pre x (wr.drewN nq) (hJa _ _ _ HJ.out) (by have := HPL.out; omega)
        rw [hx1] at hy
        have HR := Lib.hid hR
        clear hR hxe hx1 HX HY HJ
        gi_wp2
        refine ⟨fun h => (by cases h), HR.out.mono ?_⟩
        rintro e W3 (⟨rfl, hJ3, hk3⟩ | ⟨rfl, hJx3⟩)
        · have HJ3 := Lib.hid hJ3
          have HK3 : Hid (KpC n₀ Bs Bn W W3) := Lib.hid (HK.out.trans (KpC.trans (show KpC n₀ Bs Bn wr (wr.drewN nq) from ⟨⟨rfl, rfl, rfl, Nat.le_refl _, fun _ _ => rfl⟩, fun _ => rfl, fun _ => rfl⟩) hk3))
          have d2 : W3.cell? ⟨Bn, 0, none⟩ = some (.int .i64 (m : Int)) := (World.cell?_of_block (a := ⟨Bn, 0, none⟩) (HK3.out.2.2 HLN)).trans HBN.out
          clear hJ3 hk3 HR HK
          gi_wp2
          go_roundw
          case rel => exact ⟨k + 1, pre ++ [x], by rw [HNX.out]; simp, by rw [List.map_append, HP.out, HGS.out, List.map_cons, List.map_nil, HX2.out], fun _ => by rw [Nat.add_sub_cancel, HQ.out]; exact hlt, HJ3.out, HK3.out⟩
          case measure => simp [intOf]; omega
        · gi_wp2
          refine bodyPost_ret (results_none rfl _ _ _) rfl ?_
          exact ⟨⟨_, rfl⟩, .inr ⟨_, trivial, hJx3⟩⟩
    · gi_wp2
      go_end0
      have hall := grps_all hm R (K := k) (by omega) hk
      exact ⟨⟨_, rfl⟩, .inl ⟨pre, hp.trans hall, hJ⟩⟩
/-- slices.Chunk hands back a value that stops -/
theorem chunkI_stops (n Bs Bn n₀ m : Nat) (hm : 0 < m) (hm2 : m ≤ 1000) (R : List Int) (hR : R.length ≤ 4000000) (Pr : List Int → Prop) (hPr : ∀ k, k * m < R.length → Pr (grp m R k)) (W0 : World) (hn₀ : n₀ = W0.heap.size) (ad : Option Addr) (cap : Nat) (hv : IntsIn (.slice ad R.length cap) R W0)
    (w : World) (hBs : w.cell? ⟨Bs, 0, none⟩ = some (.slice ad R.length cap)) (hBn : w.cell? ⟨Bn, 0, none⟩ = some (.int .i64 (m : Int))) :
    SeqStopsK Fence.wide n Tryz.prog 101 #[.pointer (some ⟨Bs, 0, none⟩), .pointer (some ⟨Bn, 0, none⟩)] (fun x : CkI Pr W0 => #[x.1.1]) (KpC n₀ Bs Bn) (fun xs => (xs.map fun x : CkI Pr W0 => x.1.2) = chunks m R) (fun _ => True) R.length w :=
  fun l J Jx W hW hJ _ hY h0 => chunkI_in n l Bs Bn n₀ m hm hm2 R hR Pr hPr W0 hn₀ ad cap hv J Jx (fun s A q h => hJ s A _ none h ⟨rfl, rfl, rfl, Nat.le_refl _, fun _ _ _ => rfl⟩ (fun r e => by cases e)) hY W
    ((hW.cell (p := ⟨Bs, 0, none⟩) (cell_flat hBs).2).trans hBs) ((hW.cell (p := ⟨Bn, 0, none⟩) (cell_flat hBn).2).trans hBn) h0
end Go.Proofs.YtanghmogeiiooaaGreatDoor
