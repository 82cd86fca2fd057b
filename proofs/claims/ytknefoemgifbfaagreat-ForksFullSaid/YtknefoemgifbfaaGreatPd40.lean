import Derived.Test.YtknefoemgifbfaaGreatPd29
import Derived.Lib.AppendZeros
set_option linter.unusedVariables false
set_option linter.unusedSimpArgs false
set_option linter.constructorNameAsVariable false
set_option maxRecDepth 100000
set_option maxHeartbeats 16000000
namespace Go.Proofs.YtknefoemgifbfaaGreat
open Go.RowKit Go.Shelf
theorem grow_any (n : Nat) (hn : n ≤ 4000000) (w : World) :
 Calls Tryz.prog 109 #[.slice none 0 0, .int .i64 n] w fun e w' => ∃ v, e = .returned v ∧ RunsAt w.heap.size v [] w' ∧ Below w.heap.size w w' := by
 obtain ⟨i0, hi, hz0, hz1, hz2⟩ := info_parts info_run;by_cases h0 : n = 0
 ·subst h0
  go_enter Tryz.func109, Tryz.ntmps109
  go_wp2;go_ret;exact ⟨_, rfl, World.ownsRow_nil _ _ _ _, Below.refl _ _⟩
 ·have h1 : (0 : Int) < (n : Int) := by omega
  have hr := Lib.run_append_nil_zeros (P := Tryz.prog) w 126 3 126 136 i0 (.agg #[.int .i64 0, .int .i64 0]) .i64 .i64 Tryz.underlying126 Tryz.underlying3 hi hz0 n (by omega) (by rw [hz1]; decide) (by omega) (by rw [hz2]; omega);have hge := grownCap_ge w n 0 136;have hle := grownCap_le_maxLen w n 0 136 (by unfold maxLen; omega)
  have hown : RunsAt w.heap.size (.slice (some ⟨w.heap.size, 0, none⟩) 0 (grownCap w n 0 136)) [] (w.drew.alloc (.cells (Builtin.zeroCells (Value.agg #[.int .i64 0, .int .i64 0]).cells n ++ Builtin.zeroCells (Value.agg #[.int .i64 0, .int .i64 0]).cells (grownCap w n 0 136 - n)) 136)) :=
   ⟨rfl, .inr ⟨w.heap.size, _, _, rfl, Nat.le_refl _, heap_alloc_new w.drew _, Nat.zero_le _, hle, by
    rw [Array.size_append, size_zeroCells, size_zeroCells]
    show n * 2 + (_ - n) * 2 = _
    omega, rfl⟩⟩
  have hb : Below w.heap.size w (w.drew.alloc (.cells (Builtin.zeroCells (Value.agg #[.int .i64 0, .int .i64 0]).cells n ++ Builtin.zeroCells (Value.agg #[.int .i64 0, .int .i64 0]).cells (grownCap w n 0 136 - n)) 136)) := (Below.refl _ w).drew.alloc (Nat.le_refl _) _;have hle : grownCap w n 0 136 ≤ 9223372036854775807 := hle;generalize hw1 : w.drew.alloc (.cells (Builtin.zeroCells (Value.agg #[.int .i64 0, .int .i64 0]).cells n ++ Builtin.zeroCells (Value.agg #[.int .i64 0, .int .i64 0]).cells (grownCap w n 0 136 - n)) 136) = w1 at *;generalize grownCap w n 0 136 = c at *;have HR := Lib.hid hr;clear hr hi hz0 hz1 hz2
  go_enter Tryz.func109, Tryz.ntmps109
  go_wp2_with (at_builtin; refine Lib.wpList_append_run _ rfl _ _ _ _ rfl _ _ rfl rfl _ _ HR.out ?_)
  go_wp2;go_ret;exact ⟨_, rfl, hown, hb⟩
theorem cells_of_two {w : World} {g o : Nat} {l : List (Int × Int)} (hc : ∀ k (h : k < l.length), w.cell? ⟨g, o + k * 2, none⟩ = some (.int .i64 l[k].1) ∧ w.cell? ⟨g, o + k * 2 + 1, none⟩ = some (.int .i64 l[k].2)) :
 ∀ j u, (cellsR l)[j]? = some u → w.cell? ((⟨g, o, none⟩ : Addr).add j) = some u := by
 intro j u hj
 have hjl : j < l.length * 2 := by
  have := (List.getElem?_eq_some_iff.1 hj).1; rwa [cellsR_length] at this
 have hadd : (⟨g, o, none⟩ : Addr).add j = ⟨g, o + j, none⟩ := by unfold Addr.add; split <;> simp_all
 have hk : j / 2 < l.length := by omega
 obtain ⟨h1, h2⟩ := hc (j / 2) hk;obtain ⟨d1, d2⟩ := cellsR_at l (j / 2) hk;rw [hadd, ← hj];rcases Nat.mod_two_eq_zero_or_one j with e | e
 ·have : j / 2 * 2 = j := by omega
  rw [this] at h1 d1; rw [h1, d1]
 ·have : j / 2 * 2 + 1 = j := by omega
  rw [show o + j / 2 * 2 + 1 = o + (j / 2 * 2 + 1) by omega, this] at h2; rw [this] at d2; rw [h2, d2]
theorem wpList_appv {ops : Array Oper} {rest : List Oper} {o : Oper} {a : Act} {Q : Exit → Act → World → Prop} {w : World} (hgd : o.guard = none) (s x : Operand)
 (ho : o.op = .call { callee := .builtin .append, args := #[s, x], argTypes := #[126, 126] })
 (base : Nat) (v : Value) (l : List (Int × Int)) (hs : a.eval s = v) (hown : RunsAt base v l w) (u : Value) (news : List (Int × Int)) (hx : a.eval x = u) (hu : RunsIn u news w)
 (hlen : l.length + news.length ≤ 4000000) (hbase : base ≤ w.heap.size)
 (h : ∀ v' w', RunsAt base v' (l ++ news) w' → Below base w w' → wpList Tryz.prog ops Q rest (a.put o.dst v') w') : wpList Tryz.prog ops Q (o :: rest) a w := by
 obtain ⟨ad, cap, rfl, h1, h2, h3, h4⟩ := hu
 cases ad with
 | none =>
   have hc := h4 rfl;subst hc;have hnil : news = [] := List.length_eq_zero_iff.1 (by omega);subst hnil;obtain ⟨i0, hi, hz0, hz1, hz2⟩ := info_parts info_run;refine wpList_append_own_none hgd s x 126 ho base 136 i0 2 Tryz.underlying126 hi v _ _ hs hown hx (h v w ?_ (Below.refl _ _));rw [List.append_nil]; exact hown
 | some ad =>
   refine wpList_app hgd s x ho base v l hs hown ad news.length cap news rfl hx ?_ hlen hbase h;by_cases hl : news.length = 0
   ·have hnil : news = [] := List.length_eq_zero_iff.1 hl
    subst hnil;intro j u hj; simp [cellsR] at hj
   ·obtain ⟨g, o, e, _, hc⟩ := h3 (by omega)
    cases e
    exact cells_of_two hc
theorem concat_any (a b : List (Int × Int)) (hl : a.length + b.length ≤ 2000000) (va vb : Value) (g : Nat) (w : World) (hg : g < w.heap.size) (c0 : w.cell? ⟨g, 0, none⟩ = some va) (c1 : w.cell? ⟨g, 1, none⟩ = some vb) (ha : RunsIn va a w) (hb : RunsIn vb b w) :
 Calls Tryz.prog 74 #[.slice (some ⟨g, 0, none⟩) 2 2] w fun e w' => ∃ v, e = .returned v ∧ RunsAt w.heap.size v (a ++ b) w' ∧ Below w.heap.size w w' := by
 obtain ⟨ada, capa, rfl, -⟩ := id ha;obtain ⟨adb, capb, rfl, -⟩ := id hb;have G := grow_any (a.length + b.length) (by omega) w;rw [Int.natCast_add] at G;have G := Lib.hid G
 have hl2 : (a.length : Int) + (b.length : Int) ≤ 2000000 := by omega
 go_enter Tryz.func74, Tryz.ntmps74
 go_wp2
 go_loopw [3, 11] (fun sz p wr => wr = w ∧ ((p = .int .i64 0 ∧ sz = .int .i64 0) ∨ (p = .int .i64 1 ∧ sz = .int .i64 a.length) ∨ (p = .int .i64 2 ∧ sz = .int .i64 ((a.length : Int) + (b.length : Int))))) (fun _ p _ => 2 - (intOf p).toNat)
 case atStart => exact ⟨rfl, .inl ⟨rfl, rfl⟩⟩
 case round =>
  obtain ⟨hw, hrel⟩ := hrel;have hw := hw.symm;subst hw;rcases hrel with ⟨rfl, rfl⟩ | ⟨rfl, rfl⟩ | ⟨rfl, rfl⟩
  ·go_wp2
   exact ⟨⟨trivial, .inr (.inl ⟨rfl, rfl⟩)⟩, by simp [intOf]⟩
  ·go_wp2
   exact ⟨⟨trivial, .inr (.inr ⟨rfl, rfl⟩)⟩, by simp [intOf]⟩
  ·have HA := Lib.hid ha
   have HB := Lib.hid hb;clear ha hb;go_wp2_with fail
   refine G.out.mono ?_; rintro e w1 ⟨v, rfl, hown, hb1⟩;have c0' := (hb1.cell (p := ⟨g, 0, none⟩) hg).trans c0;have c1' := (hb1.cell (p := ⟨g, 1, none⟩) hg).trans c1;clear G;go_wp2
   go_loopw [6, 27] (fun vn p wr => Below w.heap.size w wr ∧ ((p = .int .i64 0 ∧ RunsAt w.heap.size vn [] wr) ∨ (p = .int .i64 1 ∧ RunsAt w.heap.size vn a wr) ∨ (p = .int .i64 2 ∧ RunsAt w.heap.size vn (a ++ b) wr))) (fun _ p _ => 2 - (intOf p).toNat)
   case atStart => exact ⟨hb1, .inl ⟨rfl, hown⟩⟩
   case round =>
    obtain ⟨hbq, ⟨rfl, ho⟩ | ⟨rfl, ho⟩ | ⟨rfl, ho⟩⟩ := hrel
    ·have e0 := (hbq.cell (p := ⟨g, 0, none⟩) hg).trans c0
     have hA := runsIn_kept HA.out hbq;have hsq := hbq.size;clear c0 c1 c0' c1' hown hb1
     go_wp2_with (at_builtin; refine wpList_appv rfl _ _ rfl w.heap.size _ [] rfl ho _ a rfl hA (by simp; omega) hsq ?_)
     intro v' w3 h3 h4;have h5 := hbq.trans h4;clear ho hA h4 hbq;go_wp2;exact ⟨⟨h5, .inr (.inl ⟨rfl, h3⟩)⟩, by simp [intOf]⟩
    ·have e0 := (hbq.cell (p := ⟨g, 1, none⟩) hg).trans c1
     have hB := runsIn_kept HB.out hbq;have hsq := hbq.size;clear c0 c1 c0' c1' hown hb1
     go_wp2_with (at_builtin; refine wpList_appv rfl _ _ rfl w.heap.size _ a rfl ho _ b rfl hB (by omega) hsq ?_)
     intro v' w3 h3 h4;have h5 := hbq.trans h4;clear ho hB h4 hbq;go_wp2;exact ⟨⟨h5, .inr (.inr ⟨rfl, h3⟩)⟩, by simp [intOf]⟩
    ·clear c0 c1 c0' c1' hown hb1
     go_wp2;go_ret;exact ⟨_, rfl, ho, hbq⟩
open Go.RowKit Go.Shelf
theorem sorts_none (ad : Option Addr) (cap : Nat) (f : Value) (w : World) :
 Calls Tryz.prog 123 #[.slice ad 0 cap, f] w fun e w' => e = .returned (.tuple #[]) ∧ w' = w := AnyF.slices_SortFunc_none Tryz.sortRun ad cap f w
theorem sorts_all : SortsR := by
 intro l B v W hB hl h;obtain ⟨ad, cap, rfl, h1, h2, h3⟩ := shape_of h;by_cases h0 : l.length = 0
 ·have hnil : l = [] := List.length_eq_zero_iff.1 h0
  subst hnil;refine (sorts_none ad cap _ W).mono ?_;rintro e w' ⟨rfl, rfl⟩;exact ⟨rfl, [], rfl, fun r => Iff.rfl, fun i j _ hj => by simp at hj, h, Below.refl _ _⟩
 ·obtain ⟨g, rfl, hg, hlt⟩ := h3 (by omega)
  exact sorts_some l B g cap W hg hlt hl h
theorem norm_any (l : List (Int × Int)) (hf : fitR l) (hl : l.length ≤ 1000000) (v : Value) (w : World) (hv : RunsIn v l w) :
 Calls Tryz.prog 98 #[v] w fun e w' => ∃ v', e = .returned v' ∧ RunsAt w.heap.size v' (normR l) w' ∧ Below w.heap.size w w' := normal_any sorts_all l hf hl v w hv
theorem fit_norm (l : List (Int × Int)) : fitR (normR l) := (norm_norm l).fit
theorem between_below (a b : Int) (h : I64 (b - a)) (W : World) :
 Calls Tryz.prog 116 #[.int .i64 a, .int .i64 b] W fun e w' => e = .returned (.agg #[.int .i64 a, .int .i64 (b - a)]) ∧ Below W.heap.size W w' :=
 (between_any a b h W).mono fun e w' ⟨he, hw⟩ => ⟨he, by rw [hw]; exact (Below.refl _ _).alloc (Nat.le_refl _) _⟩
theorem end_below (a b : Int) (h : I64 (a + b)) (W : World) :
 Calls Tryz.prog 97 #[.agg #[.int .i64 a, .int .i64 b]] W fun e w' => e = .returned (.int .i64 (a + b)) ∧ Below W.heap.size W w' :=
 (end_any a b h W).mono fun e w' ⟨he, hw⟩ => ⟨he, by rw [hw]; exact (Below.refl _ _).alloc (Nat.le_refl _) _⟩
theorem gaps_nil {n at_ : Int} : gapsGo n at_ [] = if at_ < n then [(at_, n - at_)] else [] := rfl
theorem gaps_stop {n at_ : Int} {r : Int × Int} {l : List (Int × Int)} (h : n ≤ r.1) : gapsGo n at_ (r :: l) = if at_ < n then [(at_, n - at_)] else [] := by unfold gapsGo; rw [if_pos h]
theorem gaps_on {n at_ : Int} {r : Int × Int} {l : List (Int × Int)} (h : ¬ n ≤ r.1) : gapsGo n at_ (r :: l) = (if at_ < r.1 then [(at_, r.1 - at_)] else []) ++ gapsGo n (r.1 + r.2) l := by conv => lhs; unfold gapsGo; rw [if_neg h]
theorem wpList_appg {ops : Array Oper} {rest : List Oper} {o : Oper} {a : Act} {Q : Exit → Act → World → Prop} {w : World} (hgd : o.guard = none) (s x : Operand)
 (ho : o.op = .call { callee := .builtin .append, args := #[s, x], argTypes := #[126, 126] })
 (base : Nat) (v : Value) (l : List (Int × Int)) (hs : a.eval s = v) (hown : RunsAt base v l w)
 (ad : Addr) (c : Nat) (r : Int × Int) (hx : a.eval x = .slice (some ad) 1 c) (hnews : ∀ j u, (cellsR [r])[j]? = some u → w.cell? (ad.add j) = some u)
 (hlen : l.length ≤ 3000000) (hbase : base ≤ w.heap.size)
 (h : ∀ v' w', RunsAt base v' (l ++ [r]) w' → w.grownBy w' v.ownBlock → wpList Tryz.prog ops Q rest (a.put o.dst v') w') : wpList Tryz.prog ops Q (o :: rest) a w := by
 obtain ⟨i0, hi, hz0, hz1, hz2⟩ := info_parts info_run;refine wpList_append_own w hgd s x 126 ho base 136 i0 (.agg #[.int .i64 0, .int .i64 0]) 2 16 Tryz.underlying126 hi hz0 hz1 hz2 rfl (by decide) v _ _ hs hown ad 1 c (cellsR [r]) hx rfl hnews (one_cells _ _) (by unfold maxLen; omega) (by omega) hbase ?_;intro v' w' h1 h2 _;refine h v' w' ?_ h2
 show w'.ownsRow _ _ _ _ (l ++ [r]).length (cellsR (l ++ [r]))
 rw [List.length_append, cellsR_append]; exact h1
theorem cell_grownBy {w w' : World} {row : Option Nat} {a : Addr} {v : Value} (hg : w.grownBy w' row) (hb : a.block < w.heap.size) (hne : some a.block ≠ row) (h : w.cell? a = some v) : w'.cell? a = some v :=
 (World.cell?_of_block (hg.block a.block hb hne)).trans h
theorem compl_any (l : List (Int × Int)) (hf : fitR l) (hl : l.length ≤ 500000) (n : Int) (hn : I64 n) (v : Value) (w : World) (hv : RunsIn v l w) :
 Calls Tryz.prog 182 #[v, .int .i64 n] w fun e w' => ∃ v', e = .returned v' ∧ RunsAt w.heap.size v' (complR l n) w' ∧ Below w.heap.size w w' := by
 obtain ⟨hn1, hn2⟩ := hn;have N := Lib.hid (norm_any l hf (by omega) v w hv);have HG := Lib.hid (compl_gaps l hn2);have hok : ∀ r ∈ normR l, okR r := fun r hr => ((norm_norm l).mem r hr).1;have hlen := norm_len l;clear hv;generalize normR l = m at *;generalize complR l n = R at *
 go_enter Tryz.func182, Tryz.ntmps182
 go_wp2_with fail
 refine N.out.mono ?_; rintro e w1 ⟨vm, rfl, hm, hb1⟩;obtain ⟨adm, capm, rfl, m1, m2, m3⟩ := shape_of hm;have m2 : capm ≤ 9223372036854775807 := m2
 have hm2 : m.length ≤ 500000 := by omega
 clear N;go_wp2
 go_loopw [5, 6, 12] (fun vg pa p wr => ∃ (k : Nat) (at_ : Int) (out : List (Int × Int)), p = .int .i64 k ∧ pa = .int .i64 at_ ∧ k ≤ m.length ∧ 0 ≤ at_ ∧ at_ ≤ 9223372036854775807 ∧ out.length ≤ k ∧ Hid (out ++ gapsGo n at_ (m.drop k) = R) ∧ RunsAt w1.heap.size vg out wr ∧ Below w1.heap.size w1 wr) (fun _ _ p _ => m.length - (intOf p).toNat)
 case atStart => exact ⟨0, 0, [], rfl, rfl, Nat.zero_le _, Int.le_refl _, by omega, Nat.le_refl _, HG, World.ownsRow_nil _ _ _ _, Below.refl _ _⟩
 case round =>
  obtain ⟨k, at_, out, rfl, rfl, hk, ha0, ha1, hol, HR, hown, hb⟩ := hrel;have ha64 : I64 at_ := ⟨by omega, ha1⟩;by_cases hlt : k < m.length
  ·obtain ⟨g, rfl, hgB, hg⟩ := m3 (by omega)
   obtain ⟨c1, c2⟩ := run_cells (row_kept hm hb) k hlt;have hok1 := hok _ (List.getElem_mem hlt);have hfr := okR_fit hok1;obtain ⟨hr1, hr2, hr3⟩ := hok1;have hdrop : m.drop k = (m[k].1, m[k].2) :: m.drop (k + 1) := List.drop_eq_getElem_cons hlt;rw [hdrop] at HR;have hiE : I64 (m[k].1 + m[k].2) := ⟨by omega, hr3⟩;generalize m[k].1 = a at *;generalize m[k].2 = b at *;by_cases hstop : n ≤ a
   ·rw [gaps_stop hstop] at HR
    have hownT := hown.alloc (.cells #[.int .i64 a, .int .i64 b] 136);have hbT := balloc' hb hb.size (.cells #[.int .i64 a, .int .i64 b] 136);clear hown hb hm m3 hok hdrop HG;by_cases hat : at_ < n
    ·rw [if_pos hat] at HR
     have B := Lib.hid (between_below at_ n ⟨by omega, by omega⟩);go_wp2_with fail
     refine (B.out _).mono ?_; rintro e w3 ⟨rfl, b3⟩;have hown3 := row_kept hownT b3;have hb3 := hbT.trans (b3.mono hbT.size);have hs3 := hb3.size;clear hownT hbT b3 B
     go_wp2_with (at_builtin; refine wpList_app rfl _ _ rfl w1.heap.size _ out rfl (hown3.alloc _) ⟨w3.heap.size, 0, none⟩ 1 1 [(at_, n - at_)] rfl rfl (new_cells1 _ _ _) (by omega) (by rw [size_alloc]; omega) ?_)
     intro v' w4 h4 h5;have hb4 := (balloc' hb3 hs3 _).trans h5;rw [HR.out] at h4;clear hown3 hb3 h5 hs3;go_wp2;go_ret;exact ⟨_, rfl, row_down hb1.size h4, bnext hb1 hb4⟩
    ·rw [if_neg hat, List.append_nil] at HR
     rw [HR.out] at hownT
     have hat : n ≤ at_ := by omega
     go_wp2;go_ret;exact ⟨_, rfl, row_down hb1.size hownT, bnext hb1 hbT⟩
   ·rw [gaps_on hstop] at HR
    have E := Lib.hid (end_below a b hiE)
    have hstop : a < n := by omega
    by_cases hgap : at_ < a
    ·rw [if_pos hgap, ← List.append_assoc] at HR
     have B := Lib.hid (between_below at_ a ⟨by omega, by omega⟩);have hown0 := hown.alloc (.cells #[.int .i64 a, .int .i64 b] 136);have hb0 := balloc' hb hb.size (.cells #[.int .i64 a, .int .i64 b] 136);clear hm m3 hok hdrop HG;go_wp2_with fail
     refine (B.out _).mono ?_; rintro e w3 ⟨rfl, b3⟩
     have b3' : Below (wr.heap.size + 1) (wr.alloc (.cells #[.int .i64 a, .int .i64 b] 136)) w3 := by rw [← size_alloc]; exact b3
     obtain ⟨d1, d2⟩ := two_old b3'
     have hN : wr.heap.size < w3.heap.size := by have := b3'.size; rw [size_alloc] at this; omega
     have hown3 := row_kept hown0 b3;have hb3 := hb0.trans (b3.mono hb0.size);have hs3 := hb3.size
     have hne : ∀ v : Value, wr.ownsRow w1.heap.size 136 2 v out.length (cellsR out) → some wr.heap.size ≠ v.ownBlock := fun v h e => by
      have := (h.lt _ e.symm).2; omega
     have hne := hne _ hown;have d1 := cell_old (a := ⟨wr.heap.size, 0, none⟩) hN d1 (.cells #[.int .i64 at_, .int .i64 (a - at_)] 136);have d2 := cell_old (a := ⟨wr.heap.size, 1, none⟩) hN d2 (.cells #[.int .i64 at_, .int .i64 (a - at_)] 136)
     have hN3 : wr.heap.size < (w3.alloc (.cells #[.int .i64 at_, .int .i64 (a - at_)] 136)).heap.size := by rw [size_alloc]; omega
     have hown3' := hown3.alloc (.cells #[.int .i64 at_, .int .i64 (a - at_)] 136)
     have hbelow : ∀ v w4, RunsAt w1.heap.size v out w3 → (w3.alloc (.cells #[.int .i64 at_, .int .i64 (a - at_)] 136)).grownBy w4 v.ownBlock → Below w1.heap.size w1 w4 := fun v w4 h g =>
      (balloc' hb3 hs3 _).trans (below_of_row (h.alloc _) g (by rw [size_alloc]; omega))
     have hbelow := fun w4 => hbelow _ w4 hown3;have hbelow := Lib.hid hbelow;clear hown0 hb0 b3 b3' B hown hown3 hb3
     go_wp2_with (at_builtin; refine wpList_appg rfl _ _ rfl w1.heap.size _ out rfl hown3' ⟨w3.heap.size, 0, none⟩ 1 (at_, a - at_) rfl (new_cells1 _ _ _) (by omega) (by rw [size_alloc]; omega) ?_)
     intro v' w4 h4 hg4;have d1 := cell_grownBy hg4 (a := ⟨wr.heap.size, 0, none⟩) hN3 hne d1;have d2 := cell_grownBy hg4 (a := ⟨wr.heap.size, 1, none⟩) hN3 hne d2;have hb4 := hbelow.out _ hg4;clear hown3' hg4 hbelow hne;go_wp2_with fail
     refine (E.out _).mono ?_; rintro e w5 ⟨rfl, b5⟩;have h5 := row_kept h4 b5;have hb5 := hb4.trans (b5.mono hb4.size);clear h4 hb4 b5 E d1 d2;go_wp2;exact ⟨⟨k + 1, a + b, out ++ [(at_, a - at_)], by go_num, rfl, by omega, by omega, hr3, by simp; omega, HR, h5, hb5⟩, by simp [intOf]; omega⟩
    ·rw [if_neg hgap, List.nil_append] at HR
     have hgap : a ≤ at_ := by omega
     have hown0 := hown.alloc (.cells #[.int .i64 a, .int .i64 b] 136);have hb0 := balloc' hb hb.size (.cells #[.int .i64 a, .int .i64 b] 136);clear hown hb hm m3 hok hdrop HG;go_wp2_with fail
     refine (E.out _).mono ?_; rintro e w3 ⟨rfl, b3⟩;have hown3 := row_kept hown0 b3;have hb3 := hb0.trans (b3.mono hb0.size);clear hown0 hb0 b3 E;go_wp2;exact ⟨⟨k + 1, a + b, out, by go_num, rfl, by omega, by omega, hr3, by omega, HR, hown3, hb3⟩, by simp [intOf]; omega⟩
  ·obtain rfl : k = m.length := by omega
   rw [List.drop_length, gaps_nil] at HR;have hownT := hown;have hbT := hb;clear hown hb hm m3 hok HG;by_cases hat : at_ < n
   ·rw [if_pos hat] at HR
    have B := Lib.hid (between_below at_ n ⟨by omega, by omega⟩);go_wp2_with fail
    refine (B.out _).mono ?_; rintro e w3 ⟨rfl, b3⟩;have hown3 := row_kept hownT b3;have hb3 := hbT.trans (b3.mono hbT.size);have hs3 := hb3.size;clear hownT hbT b3 B
    go_wp2_with (at_builtin; refine wpList_app rfl _ _ rfl w1.heap.size _ out rfl (hown3.alloc _) ⟨w3.heap.size, 0, none⟩ 1 1 [(at_, n - at_)] rfl rfl (new_cells1 _ _ _) (by omega) (by rw [size_alloc]; omega) ?_)
    intro v' w4 h4 h5;have hb4 := (balloc' hb3 hs3 _).trans h5;rw [HR.out] at h4;clear hown3 hb3 h5 hs3;go_wp2;go_ret;exact ⟨_, rfl, row_down hb1.size h4, bnext hb1 hb4⟩
   ·rw [if_neg hat, List.append_nil] at HR
    rw [HR.out] at hownT
    have hat : n ≤ at_ := by omega
    go_wp2;go_ret;exact ⟨_, rfl, row_down hb1.size hownT, bnext hb1 hbT⟩
open Go.RowKit Go.Shelf
def lenOf : Value → Nat
 | .slice _ n _ => n
 | _ => 0
theorem runsIn_tail {g o cap : Nat} {r : Int × Int} {l : List (Int × Int)} {w : World} (hcap : l.length + 1 ≤ cap) (hm : cap ≤ 9223372036854775807) (hg : g < w.heap.size)
 (hc : ∀ k (h : k < (r :: l).length), w.cell? ⟨g, o + k * 2, none⟩ = some (.int .i64 (r :: l)[k].1) ∧ w.cell? ⟨g, o + k * 2 + 1, none⟩ = some (.int .i64 (r :: l)[k].2)) :
 RunsIn (.slice (if cap = 1 then some ⟨g, o, none⟩ else some ⟨g, o + 2, none⟩) l.length (cap - 1)) l w := by
 refine ⟨_, _, rfl, by omega, by unfold maxLen; omega, fun hp => ?_, fun h => by split at h <;> cases h⟩;refine ⟨g, o + 2, by rw [if_neg (by omega)], hg, fun k hk => ?_⟩;have h := hc (k + 1) (by simp; omega);rw [show o + 2 + k * 2 = o + (k + 1) * 2 by omega]
 simpa using h
theorem meetGo_pair (x1 x2 y1 y2 : Int) (a b : List (Int × Int)) : meetGo ((x1, x2) :: a) ((y1, y2) :: b) = (if max x1 y1 < min (x1 + x2) (y1 + y2) then [(max x1 y1, min (x1 + x2) (y1 + y2) - max x1 y1)] else []) ++
 if x1 + x2 = min (x1 + x2) (y1 + y2) then meetGo a ((y1, y2) :: b) else meetGo ((x1, x2) :: a) b := meetGo_cons _ _ _ _
theorem runsIn_head {v : Value} {x1 x2 : Int} {l : List (Int × Int)} {w : World} (h : RunsIn v ((x1, x2) :: l) w) : ∃ g o cap, v = .slice (some ⟨g, o, none⟩) (l.length + 1) cap ∧ l.length + 1 ≤ cap ∧ cap ≤ 9223372036854775807 ∧ g < w.heap.size ∧
 w.cell? ⟨g, o, none⟩ = some (.int .i64 x1) ∧ w.cell? ⟨g, o + 1, none⟩ = some (.int .i64 x2) ∧
 ∀ k (h : k < ((x1, x2) :: l).length), w.cell? ⟨g, o + k * 2, none⟩ = some (.int .i64 ((x1, x2) :: l)[k].1) ∧ w.cell? ⟨g, o + k * 2 + 1, none⟩ = some (.int .i64 ((x1, x2) :: l)[k].2) := by
 obtain ⟨ad, cap, rfl, h1, h2, h3, h4⟩ := h;obtain ⟨g, o, rfl, hg, hc⟩ := h3 (by simp);obtain ⟨c1, c2⟩ := hc 0 (by simp);simp only [List.getElem_cons_zero, Nat.zero_mul, Nat.add_zero] at c1 c2;exact ⟨g, o, cap, rfl, h1, h2, hg, c1, c2, hc⟩
theorem meet_any (a b : List (Int × Int)) (hfa : fitR a) (hfb : fitR b) (hl : a.length + b.length ≤ 1000000) (va vb : Value) (w : World) (ha : RunsIn va a w) (hb : RunsIn vb b w) :
 Calls Tryz.prog 89 #[va, vb] w fun e w' => ∃ v', e = .returned v' ∧ RunsAt w.heap.size v' (meetR a b) w' ∧ Below w.heap.size w w' := by
 have mixed : Tryz.prog.follows .mixedOrders = true := by kernel_rfl
 have N1 := Lib.hid (norm_any a hfa (by omega) va w ha);have N2 := Lib.hid (fun W hv => norm_any b hfb (by omega) vb W hv);have HM := Lib.hid (meet_go (a := a) (b := b));have hoa : ∀ r ∈ normR a, okR r := fun r hr => ((norm_norm a).mem r hr).1;have hob : ∀ r ∈ normR b, okR r := fun r hr => ((norm_norm b).mem r hr).1;have hla := norm_len a;have hlb := norm_len b;generalize normR a = A at *;generalize normR b = B at *;generalize meetR a b = R at *
 go_enter Tryz.func89, Tryz.ntmps89
 go_wp2_with fail
 refine N1.out.mono ?_; rintro e w1 ⟨v1, rfl, hA, hb1⟩;go_wp2_with fail
 refine (N2.out _ (runsIn_kept hb hb1)).mono ?_; rintro e w2 ⟨v2, rfl, hB, hb2⟩;have hA2 := runsIn_kept (runsAt_in hA) hb2;have hB2 := runsAt_in hB;have hbw := bnext hb1 hb2
 have hlab : A.length + B.length ≤ 1000000 := by omega
 clear N1 N2 hA hB hb1 hb2 ha hb hla hlb;go_wp2
 go_loopw [0, 1, 5] (fun sa sb vm wr => ∃ al bl out, RunsIn sa al w2 ∧ RunsIn sb bl w2 ∧ (∀ r ∈ al, okR r) ∧ (∀ r ∈ bl, okR r) ∧ out.length + (al.length + bl.length) ≤ A.length + B.length ∧ Hid (out ++ meetGo al bl = R) ∧ RunsAt w2.heap.size vm out wr ∧ Below w2.heap.size w2 wr) (fun sa sb _ _ => lenOf sa + lenOf sb)
 case atStart => exact ⟨A, B, [], hA2, hB2, hoa, hob, by simp, HM, World.ownsRow_nil _ _ _ _, Below.refl _ _⟩
 case round =>
  obtain ⟨al, bl, out, hA0, hB0, hoA, hoB, hlen, HR, hown, hbr⟩ := hrel;have hAr := runsIn_kept hA0 hbr;have hBr := runsIn_kept hB0 hbr;clear hoa hob HM hA2 hB2;obtain ⟨ada, capa, rfl, p1, p2, p3, p4⟩ := id hA0;obtain ⟨adb, capb, rfl, q1, q2, q3, q4⟩ := id hB0;have p2 : capa ≤ 9223372036854775807 := p2;have q2 : capb ≤ 9223372036854775807 := q2
  cases al with
  | nil =>
    have HE : Hid (out = R) := Lib.hid (by have := HR.out; rwa [meetGo_nil, List.append_nil] at this);rw [HE.out] at hown;clear p3 p4 q3 q4 hAr hBr hA0 hB0;go_wp2;go_ret;exact ⟨_, rfl, row_down hbw.size hown, bnext hbw hbr⟩
  | cons x al =>
    cases bl with
    | nil =>
      have HE : Hid (out = R) := Lib.hid (by have := HR.out; rwa [meetGo_nil', List.append_nil] at this);rw [HE.out] at hown;clear p3 p4 q3 q4 hAr hBr hA0 hB0;go_wp2;go_ret;exact ⟨_, rfl, row_down hbw.size hown, bnext hbw hbr⟩
    | cons y bl =>
      obtain ⟨x1, x2⟩ := x;obtain ⟨y1, y2⟩ := y;obtain ⟨(x1p : 0 ≤ x1), (x2p : 1 ≤ x2), (x3p : x1 + x2 ≤ 9223372036854775807)⟩ := hoA (x1, x2) (by simp);obtain ⟨(y1p : 0 ≤ y1), (y2p : 1 ≤ y2), (y3p : y1 + y2 ≤ 9223372036854775807)⟩ := hoB (y1, y2) (by simp);have hoA' : ∀ r ∈ al, okR r := fun r hr => hoA r (by simp [hr]);have hoB' : ∀ r ∈ bl, okR r := fun r hr => hoB r (by simp [hr]);rw [meetGo_pair] at HR;clear p3 p4 q3 q4;obtain ⟨ga, oa, ca, ea, ra1, ra2, hga, cx1, cx2, -⟩ := runsIn_head hAr;obtain ⟨gb, ob, cb, eb, rb1, rb2, hgb, cy1, cy2, -⟩ := runsIn_head hBr
      cases ea
      cases eb
      have hiX : I64 (x1 + x2) := ⟨by omega, by omega⟩;have hiY : I64 (y1 + y2) := ⟨by omega, by omega⟩;obtain ⟨s, hs⟩ : ∃ s, max x1 y1 = s := ⟨_, rfl⟩;obtain ⟨t, ht⟩ : ∃ t, min (x1 + x2) (y1 + y2) = t := ⟨_, rfl⟩;rw [hs, ht] at HR
      have ds : (if x1 < y1 then y1 else x1) = s := by rw [← hs]; split <;> omega
      have dt1 : (if x1 + x2 < y1 + y2 then x1 + x2 else y1 + y2) = t := by rw [← ht]; split <;> omega
      have dt2 : (if y1 + y2 < x1 + x2 then y1 + y2 else x1 + x2) = t := by rw [← ht]; split <;> omega
      have hst : I64 (t - s) := ⟨by omega, by omega⟩;have EX := Lib.hid (end_gr x1 x2 hiX);have EY := Lib.hid (end_gr y1 y2 hiY);have z1 := cell_gr (a := ⟨ga, oa, none⟩) hga cx1;have z2 := cell_gr (a := ⟨ga, oa + 1, none⟩) hga cx2;have z3 := cell_gr (a := ⟨gb, ob, none⟩) hgb cy1;have z4 := cell_gr (a := ⟨gb, ob + 1, none⟩) hgb cy2;clear cx1 cx2 cy1 cy2;go_wp2;refine wp_region_quiet_grown mixed (by kernel_rfl) ?_
      repeat (go_big_quiet_step (first | (go_at_call_of 97 (Value.agg #[.int .i64 x1, .int .i64 x2]); refine Calls.grown_of (EX.out _)) | (go_at_call_of 97 (Value.agg #[.int .i64 y1, .int .i64 y2]); refine Calls.grown_of (EY.out _))))
      refine wpQuiet_nil ?_;intro _ hw';obtain ⟨⟨nq, osq⟩, hw''⟩ := hw';subst hw'';have hx : Below wr.heap.size wr (Sort.grow (wr.drewN nq) osq) := bgrow (below_drewN (Below.refl _ _) _) _;have hownx := row_kept hown hx;have hbx := hbr.trans (hx.mono hbr.size);clear hx hown hbr hAr hBr z1 z2 z3 z4 EX EY;generalize Sort.grow (wr.drewN nq) osq = wx at *;have hsx := hbx.size;by_cases hlt : s < t
      ·rw [if_pos hlt, ← List.append_assoc] at HR
       have Bt := Lib.hid (between_below s t hst);have hlt' : decide (s < t) = true := decide_eq_true hlt;clear ds dt1 dt2 hlt hs ht;go_wp2_with fail
       refine (Bt.out _).mono ?_; rintro e w3 ⟨rfl, b3⟩;have hown3 := row_kept hownx b3;have hb3 := hbx.trans (b3.mono hsx);have hs3 := hb3.size;clear hownx hbx b3 Bt
       go_wp2_with (at_builtin; refine wpList_app rfl _ _ rfl w2.heap.size _ out rfl (hown3.alloc _) ⟨w3.heap.size, 0, none⟩ 1 1 [(s, t - s)] rfl rfl (new_cells1 _ _ _) (by simp at *; omega) (by rw [size_alloc]; omega) ?_)
       intro v' w4 hownT h4;have hbT := (balloc' hb3 hs3 _).trans h4;clear hown3 hb3 hs3 h4;have E := Lib.hid (end_below x1 x2 hiX);obtain ⟨ga, oa, ca, ea, ra1, ra2, hga, ca1, ca2, hca⟩ := runsIn_head (runsIn_kept hA0 hbT)
       cases ea
       go_wp2_with fail
       refine (E.out _).mono ?_; rintro e w6 ⟨rfl, b6⟩;have hown6 := row_kept hownT b6;have hb6 := hbT.trans (b6.mono hbT.size);clear ca1 ca2 hca hownT hbT b6 E;by_cases hx : x1 + x2 = t
       ·have dx : (x1 + x2 == t) = true := by rw [hx]; simp
        rw [if_pos hx] at HR;obtain ⟨ga6, oa6, ca6, ea, ra1, ra2, hga6, ca1, ca2, hca⟩ := runsIn_head hA0
        cases ea
        have hT := runsIn_tail ra1 ra2 hga6 hca;clear hx ca1 ca2 hca hA0;go_wp2;exact ⟨⟨al, (y1, y2) :: bl, _, hT, hB0, hoA', hoB, by simp at *; omega, HR, hown6, hb6⟩, by simp [lenOf]⟩
       ·have dx : (x1 + x2 == t) = false := by rw [beq_eq_false_iff_ne]; exact hx
        rw [if_neg hx] at HR;obtain ⟨gb6, ob6, cb6, eb, rb1, rb2, hgb6, cb1, cb2, hcb⟩ := runsIn_head hB0
        cases eb
        have hT := runsIn_tail rb1 rb2 hgb6 hcb;clear hx cb1 cb2 hcb hB0;go_wp2;exact ⟨⟨(x1, x2) :: al, bl, _, hA0, hT, hoA, hoB', by simp at *; omega, HR, hown6, hb6⟩, by simp [lenOf]⟩
      ·rw [if_neg hlt, List.nil_append] at HR
       have hlt' : decide (s < t) = false := decide_eq_false hlt;have hownT := hownx;have hbT := hbx;clear hownx hbx ds dt1 dt2 hlt hs ht;have E := Lib.hid (end_below x1 x2 hiX);obtain ⟨ga, oa, ca, ea, ra1, ra2, hga, ca1, ca2, hca⟩ := runsIn_head (runsIn_kept hA0 hbT)
       cases ea
       go_wp2_with fail
       refine (E.out _).mono ?_; rintro e w6 ⟨rfl, b6⟩;have hown6 := row_kept hownT b6;have hb6 := hbT.trans (b6.mono hbT.size);clear ca1 ca2 hca hownT hbT b6 E;by_cases hx : x1 + x2 = t
       ·have dx : (x1 + x2 == t) = true := by rw [hx]; simp
        rw [if_pos hx] at HR;obtain ⟨ga6, oa6, ca6, ea, ra1, ra2, hga6, ca1, ca2, hca⟩ := runsIn_head hA0
        cases ea
        have hT := runsIn_tail ra1 ra2 hga6 hca;clear hx ca1 ca2 hca hA0;go_wp2;exact ⟨⟨al, (y1, y2) :: bl, _, hT, hB0, hoA', hoB, by simp at *; omega, HR, hown6, hb6⟩, by simp [lenOf]⟩
       ·have dx : (x1 + x2 == t) = false := by rw [beq_eq_false_iff_ne]; exact hx
        rw [if_neg hx] at HR;obtain ⟨gb6, ob6, cb6, eb, rb1, rb2, hgb6, cb1, cb2, hcb⟩ := runsIn_head hB0
        cases eb
        have hT := runsIn_tail rb1 rb2 hgb6 hcb;clear hx cb1 cb2 hcb hB0;go_wp2;exact ⟨⟨(x1, x2) :: al, bl, _, hA0, hT, hoA, hoB', by simp at *; omega, HR, hown6, hb6⟩, by simp [lenOf]⟩
theorem compl_len (l : List (Int × Int)) {n : Int} (hn : n ≤ 9223372036854775807) : (complR l n).length ≤ l.length + 1 := by
 rw [← compl_gaps l hn];exact Nat.le_trans (gaps_len _ _ _) (Nat.succ_le_succ (norm_len l))
theorem fit_compl (l : List (Int × Int)) (n : Int) : fitR (complR l n) := (compl_norm l n).fit
theorem minus_any (a b : List (Int × Int)) (hfa : fitR a) (hfb : fitR b) (hl : a.length + b.length ≤ 400000) (va vb : Value) (w : World) (ha : RunsIn va a w) (hb : RunsIn vb b w) :
 Calls Tryz.prog 153 #[va, vb] w fun e w' => ∃ v', e = .returned v' ∧ RunsAt w.heap.size v' (minusR a b) w' ∧ Below w.heap.size w w' := by
 have hcl := compl_len b (Int.le_refl 9223372036854775807);have C := Lib.hid (compl_any b hfb (by omega) 9223372036854775807 ⟨by omega, by omega⟩ vb w hb);have M := Lib.hid (fun v W hA hB => meet_any a (complR b 9223372036854775807) hfa (fit_compl _ _) (by omega) va v W hA hB);rw [minus_meet] at M
 go_enter Tryz.func153, Tryz.ntmps153
 go_wp2_with fail
 refine C.out.mono ?_; rintro e w1 ⟨v1, rfl, h1, hb1⟩;go_wp2_with fail
 refine (M.out _ _ (runsIn_kept ha hb1) (runsAt_in h1)).mono ?_; rintro e w2 ⟨v2, rfl, h2, hb2⟩;have hbw := bnext hb1 hb2;have h3 := row_down hb1.size h2;clear ha hb h1 h2 hb1 hb2 C M;go_wp2;go_ret;exact ⟨_, rfl, h3, hbw⟩
end Go.Proofs.YtknefoemgifbfaaGreat
