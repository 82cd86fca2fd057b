import Derived.Test.YtknefoemgifbfaaGreatPd16
import Derived.Lib.AppendZeros
set_option linter.unusedVariables false
set_option linter.unusedSimpArgs false
set_option linter.constructorNameAsVariable false
set_option maxRecDepth 100000
set_option maxHeartbeats 16000000
namespace Go.Proofs.YtknefoemgifbfaaGreat
open Go.RowKit
theorem ents_app {B : Nat} {v : Value} {l m : List Ent} {w : World} {e : TypeId} (h : w.ownsRow B e 3 v (l.length + m.length) (cellsE (l ++ m))) : w.ownsRow B e 3 v (l ++ m).length (cellsE (l ++ m)) := by
 rw [List.length_append]; exact h
theorem xgrow_any (n : Nat) (hn : n ≤ 4000000) (w : World) :
 Calls Tryz.prog 152 #[.slice none 0 0, .int .i64 n] w fun e w' => ∃ v, e = .returned v ∧ ExtsAt w.heap.size v [] w' ∧ Below w.heap.size w w' := by
 obtain ⟨i0, hi, hz0, hz1, hz2⟩ := info_parts ext_info;by_cases h0 : n = 0
 ·subst h0
  go_enter Tryz.func152, Tryz.ntmps152
  go_wp2;go_ret;exact ⟨_, rfl, World.ownsRow_nil _ _ _ _, Below.refl _ _⟩
 ·have h1 : (0 : Int) < (n : Int) := by omega
  have hr := Lib.run_append_nil_zeros (P := Tryz.prog) w 42 3 42 53 i0 (.agg #[.int .i64 0, .int .i64 0, .int .i64 0]) .i64 .i64 Tryz.underlying42 Tryz.underlying3 hi hz0 n (by omega) (by rw [hz1]; decide) (by omega) (by rw [hz2]; omega);have hge := grownCap_ge w n 0 53;have hle := grownCap_le_maxLen w n 0 53 (by unfold maxLen; omega)
  have hown : ExtsAt w.heap.size (.slice (some ⟨w.heap.size, 0, none⟩) 0 (grownCap w n 0 53)) [] (w.drew.alloc (.cells (Builtin.zeroCells (Value.agg #[.int .i64 0, .int .i64 0, .int .i64 0]).cells n ++ Builtin.zeroCells (Value.agg #[.int .i64 0, .int .i64 0, .int .i64 0]).cells (grownCap w n 0 53 - n)) 53)) :=
   ⟨rfl, .inr ⟨w.heap.size, _, _, rfl, Nat.le_refl _, heap_alloc_new w.drew _, Nat.zero_le _, hle, by
    rw [Array.size_append, size_zeroCells, size_zeroCells]
    show n * 3 + (_ - n) * 3 = _
    omega, rfl⟩⟩
  have hb : Below w.heap.size w (w.drew.alloc (.cells (Builtin.zeroCells (Value.agg #[.int .i64 0, .int .i64 0, .int .i64 0]).cells n ++ Builtin.zeroCells (Value.agg #[.int .i64 0, .int .i64 0, .int .i64 0]).cells (grownCap w n 0 53 - n)) 53)) := (Below.refl _ w).drew.alloc (Nat.le_refl _) _;have hle : grownCap w n 0 53 ≤ 9223372036854775807 := hle;generalize hw1 : w.drew.alloc (.cells (Builtin.zeroCells (Value.agg #[.int .i64 0, .int .i64 0, .int .i64 0]).cells n ++ Builtin.zeroCells (Value.agg #[.int .i64 0, .int .i64 0, .int .i64 0]).cells (grownCap w n 0 53 - n)) 53) = w1 at *;generalize grownCap w n 0 53 = c at *;have HR := Lib.hid hr;clear hr hi hz0 hz1 hz2
  go_enter Tryz.func152, Tryz.ntmps152
  go_wp2_with (at_builtin; refine Lib.wpList_append_run _ rfl _ _ _ _ rfl _ _ rfl rfl _ _ HR.out ?_)
  go_wp2;go_ret;exact ⟨_, rfl, hown, hb⟩
def catE (L : Nat → List Ent) : Nat → List Ent
 | 0 => []
 | k + 1 => catE L k ++ L k
theorem catE_mono (L : Nat → List Ent) {k m : Nat} (h : k ≤ m) : (catE L k).length ≤ (catE L m).length := by
 induction m with
 | zero => obtain rfl : k = 0 := by omega
           exact Nat.le_refl _
 | succ m ih =>
   by_cases e : k = m + 1
   ·subst e; exact Nat.le_refl _
   ·have := ih (by omega)
    rw [catE, List.length_append]; omega
theorem xconcat_any (m : Nat) (hm : m ≤ 1000) (V : Nat → Value) (L : Nat → List Ent) (hl : (catE L m).length ≤ 4000) (g : Nat) (w : World) (hg : g < w.heap.size) (hc : ∀ j, j < m → w.cell? ⟨g, j, none⟩ = some (V j)) (hV : ∀ j, j < m → EntsIn (V j) (L j) w) :
 Calls Tryz.prog 126 #[.slice (some ⟨g, 0, none⟩) m m] w fun e w' => ∃ v, e = .returned v ∧ ExtsAt w.heap.size v (catE L m) w' ∧ Below w.heap.size w w' := by
 have G := Lib.hid fun (n : Nat) (h : n ≤ 4000) => xgrow_any n (by omega) w;have HC := Lib.hid hc;have HV := Lib.hid hV;have HL : Hid (∀ k, k ≤ m → (catE L k).length ≤ 4000) := Lib.hid fun k hk => Nat.le_trans (catE_mono L hk) hl;have HS : Hid (∀ k, catE L (k + 1) = catE L k ++ L k) := Lib.hid fun k => rfl;have H0 : Hid (catE L 0 = []) := Lib.hid rfl;clear hc hV hl;generalize catE L = D at *
 go_enter Tryz.func126, Tryz.ntmps126
 go_wp2
 go_loopw [3, 5, 11] (fun sz s5 p wr => wr = w ∧ ∃ k : Nat, p = .int .i64 k ∧ k ≤ m ∧ sz = .int .i64 ((D k).length : Nat)) (fun _ _ p _ => m - (intOf p).toNat)
 case atStart => exact ⟨rfl, 0, rfl, Nat.zero_le _, by rw [H0.out]; rfl⟩
 case round =>
  obtain ⟨hw, k, rfl, hk, rfl⟩ := hrel;have hw := hw.symm;subst hw;by_cases hlt : k < m
  ·have c0 := HC.out k hlt
   obtain ⟨ad, cap, e, i1, i2, -⟩ := entsIn_cells (HV.out k hlt);rw [e] at c0;have hs := HL.out k hk;have hs2 := HL.out (k + 1) hlt;have HE : Hid ((D (k + 1)).length = (D k).length + (L k).length) := Lib.hid (by rw [HS.out, List.length_append])
   have hs3 : (D k).length + (L k).length ≤ 4000 := by have := HE.out; omega
   generalize (D k).length = a at *;generalize (L k).length = b at *;clear e;go_wp2;exact ⟨⟨trivial, k + 1, by go_num, by omega, by rw [HE.out]; congr 1⟩, by simp [intOf]; omega⟩
  ·obtain rfl : k = m := by omega
   have hs := HL.out k hk;have G := Lib.hid (G.out _ hs);generalize hn : (D k).length = n at *;have HN := Lib.hid hn;clear hn;go_wp2_with fail
   refine G.out.mono ?_; rintro e w1 ⟨v, rfl, hown, hb1⟩;have HR1 := Lib.hid hown;have HB1 := Lib.hid hb1;clear G hown hb1;go_wp2
   go_loopw [6, 8, 27] (fun vn v8 p wr => ∃ j : Nat, p = .int .i64 j ∧ j ≤ k ∧ ExtsAt w.heap.size vn (D j) wr ∧ Below w.heap.size w wr) (fun _ _ p _ => k - (intOf p).toNat)
   case atStart => exact ⟨0, rfl, Nat.zero_le _, by rw [H0.out]; exact HR1.out, HB1.out⟩
   case round =>
    obtain ⟨j, rfl, hj, ho, hbq⟩ := hrel;by_cases hlt2 : j < k
    ·have c0 := (hbq.cell (p := ⟨g, j, none⟩) hg).trans (HC.out j hlt2)
     have hA := (HV.out j hlt2).kept hbq;have HE : Hid (D (j + 1) = D j ++ L j) := Lib.hid (HS.out j);have hs2 := HL.out (j + 1) (by omega)
     have hs3 : (D j).length + (L j).length ≤ 4000 := by have := HE.out; rw [this, List.length_append] at hs2; exact hs2
     obtain ⟨ad, cap, e, i1, i2, -⟩ := entsIn_cells hA;rw [e] at c0 hA;have hsq := hbq.size;have HA := Lib.hid hA;clear e hA hs2
     go_wp2_with (at_builtin; refine wpList_appE rfl _ _ 42 53 rfl Tryz.underlying42 ext_info w.heap.size _ (D j) rfl ho _ (L j) rfl HA.out (by omega) hsq ?_)
     intro v' w3 h3 g3;have h5 := hbq.trans (below_of_row ho g3 hsq);have h3 := Lib.hid h3;clear ho HA g3 hbq;go_wp2;exact ⟨⟨j + 1, by go_num, by omega, by rw [HE.out]; exact ents_app h3.out, h5⟩, by simp [intOf]; omega⟩
    ·obtain rfl : j = k := by omega
     go_wp2;go_ret;exact ⟨_, rfl, ho, hbq⟩
theorem xequal_nil (w : World) (p : Addr) (n c : Nat) : ∀ d, (Op.equalIn (d + 1) 42 (.slice (some p) n c) (.slice none 0 0)).run Tryz.prog w = .ok false w := fun d => by
 simp [Op.equalIn, run_underlying Tryz.underlying42]
theorem xrun_eql_nil (w : World) (p : Addr) (n c : Nat) : (binOp .eql 42 (.slice (some p) n c) (.slice none 0 0)).run Tryz.prog w = .ok (.bool false) w := by
 have h : (Op.equal 42 (.slice (some p) n c) (.slice none 0 0)).run Tryz.prog w = .ok false w := xequal_nil w p n c 9999;simp only [binOp]
 simp [h]
theorem xequal_none (w : World)  : ∀ d, (Op.equalIn (d + 1) 42 (.slice none 0 0) (.slice none 0 0)).run Tryz.prog w = .ok true w := fun d => by
 simp [Op.equalIn, run_underlying Tryz.underlying42]
theorem xrun_eql_none (w : World)  : (binOp .eql 42 (.slice none 0 0) (.slice none 0 0)).run Tryz.prog w = .ok (.bool true) w := by
 have h : (Op.equal 42 (.slice none 0 0) (.slice none 0 0)).run Tryz.prog w = .ok true w := xequal_none w 9999;simp only [binOp]
 simp [h]
theorem xclone_any (l : List Ent) (hl : l.length ≤ 4000) (v : Value) (w : World) (hv : EntsIn v l w) :
 Calls Tryz.prog 125 #[v] w fun e w' => ∃ v, e = .returned v ∧ ExtsAt w.heap.size v l w' ∧ Below w.heap.size w w' := by
 obtain ⟨ad, cap, rfl, c1, c2, c3, c4⟩ := entsIn_cells hv;have HV := Lib.hid hv
 cases ad with
 | none =>
   have hc := c4 rfl;subst hc;have hnil : l = [] := List.length_eq_zero_iff.1 (by omega);subst hnil;clear c3 c4 hv HV;have hq := xrun_eql_none
   go_enter Tryz.func125, Tryz.ntmps125
   go_wp2;go_ret;exact ⟨_, rfl, World.ownsRow_nil _ _ _ _, Below.refl _ _⟩
 | some ad =>
   clear c3 c4 hv;have hq := xrun_eql_nil;have hb1 := balloc1 w (.cells #[] 53);have HV1 := Lib.hid (HV.out.kept hb1)
   have hown : ExtsAt w.heap.size (.slice (some ⟨w.heap.size, 0, none⟩) 0 0) [] (w.alloc (.cells #[] 53)) :=
    ⟨rfl, .inr ⟨w.heap.size, _, _, rfl, Nat.le_refl _, heap_alloc_new w _, Nat.zero_le _, by unfold maxLen; omega, by simp, rfl⟩⟩
   go_enter Tryz.func125, Tryz.ntmps125
   go_wp2_with (at_builtin; refine wpList_appE rfl _ _ 42 53 rfl Tryz.underlying42 ext_info w.heap.size _ [] rfl hown _ l rfl HV1.out (by simp; omega) hb1.size ?_)
   intro v' w3 h3 g3;have h5 := hb1.trans (below_of_row hown g3 hb1.size)
   have h3 : ExtsAt w.heap.size v' l w3 := by simpa using h3
   have h3 := Lib.hid h3;go_wp2;go_ret;exact ⟨_, rfl, h3.out, h5⟩
end Go.Proofs.YtknefoemgifbfaaGreat
