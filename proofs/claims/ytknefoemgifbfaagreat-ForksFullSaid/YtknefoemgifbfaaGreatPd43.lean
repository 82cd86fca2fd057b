import Derived.Test.YtknefoemgifbfaaGreatPd31
import Derived.Laws.CopyRow
import Derived.Lib.Overlaps
import Derived.Lib.AppendZerosOnto
import Derived.Deep.RegionLaw
import Derived.Laws.NewBlocks
set_option linter.unusedVariables false
set_option linter.unusedSimpArgs false
set_option linter.constructorNameAsVariable false
set_option maxRecDepth 100000
set_option maxHeartbeats 16000000
namespace Go.Proofs.YtknefoemgifbfaaGreat
open Go.RowKit
theorem run_copyG {P : Program} (w : World) (dT sT ty elem : TypeId) (sz g o dLen dCap : Nat) (a : Addr) (sLen sCap : Nat) (cur : Array Value) (t : TypeId) (cs : List Value)
 (hu : P.underlying dT = some (.slice elem)) (hs : (P.info? elem).map (·.size) = some sz) (hg : w.heap[g]? = some (.cells cur t (0, 0))) (hn : cs.length = Nat.min sLen dLen * sz)
 (hsrc : ∀ j v, cs[j]? = some v → w.cell? (a.add j) = some v) (hfit : o + cs.length ≤ cur.size) (h1 : ∀ v ∈ cs, v.oneCell' = true) :
 (Builtin.copy_ #[dT, sT] ty #[.slice (some ⟨g, o, none⟩) dLen dCap, .slice (some a) sLen sCap]).run P w =
  .ok (goInt (Nat.min sLen dLen)) (w.setRow g (cur.toList.take o ++ cs ++ cur.toList.drop (o + cs.length)).toArray) := by
 have hl := run_loadCells_list (P := P) w a cs hsrc;have hst := run_storeCells_at P g o t cs 0 cur w hg (by simpa using hfit) h1
 cases hq : P.info? elem with
 | none => simp [hq] at hs
 | some i =>
   have hi : i.size = sz := by simpa [hq] using hs
   simp [Builtin.copy_, run_underlying hu, Builtin.lenOf, Builtin.firstCells, sizeOf, typeInfo, hq, hi, ← hn, hl, hst]
theorem wp_copyG {P : Program} (w : World) {o : Oper} {a : Act} {K : Act → World → Prop} {Q : Exit → Act → World → Prop} (d s : Operand) (t t' : TypeId)
 (ho : o.op = .call { callee := .builtin .copy, args := #[d, s], argTypes := #[t, t'] }) (v u : Value) (hd : a.eval d = v) (hs : a.eval s = u) {v' : Value} {w' : World}
 (hr : (Builtin.copy_ #[t, t'] o.type #[v, u]).run P w = .ok v' w') (h : K (a.put o.dst v') w') : o.wp P a w K Q := by
 unfold Oper.wp execOp;simp only [ho, resolve, invoke, builtin, Sem.run_bind, Sem.run_pure, Result.andThen_ok, List.map_toArray, List.map_cons, List.map_nil, hd, hs, hr];exact h
theorem step_copyG {P : Program} {ops : Array Oper} {o : Oper} {a : Act} {w : World} {K : Act → World → Prop} {Q : Exit → Act → World → Prop} {E : Prop}
 (hg : o.guard = none) (d x : Operand) (dT sT : TypeId) (hop : o.op = Op.call { callee := Callee.builtin Builtin.copy, args := #[d, x], argTypes := #[dT, sT] })
 (v u : Value) (hd : a.eval d = v) (hx : a.eval x = u) {v' : Value} {w' : World} (hr : (Builtin.copy_ #[dT, sT] o.type #[v, u]).run P w = .ok v' w') (hK : K (a.put o.dst v') w') :
 if Region.wanted o (yielded ops a.tmps) = true then Oper.wp P o a w K Q else E := by
 have hw : Region.wanted o (yielded ops a.tmps) = true := by simp [Region.wanted, hg]
 rw [if_pos hw];exact wp_copyG w d x dT sT hop v u hd hx hr hK
theorem ext_size : (Tryz.prog.info? 53).map (·.size) = some 3 := by kernel_rfl
def insE (A : List Ent) (i : Nat) (L : List Ent) : List Ent := A.take i ++ (L ++ A.drop i)
theorem insE_len {A L : List Ent} {i : Nat} (hi : i ≤ A.length) : (insE A i L).length = A.length + L.length := by
 unfold insE; simp only [List.length_append, List.length_take, List.length_drop]; omega
theorem cells_take {A : List Ent} {i : Nat} (hi : i ≤ A.length) : (cellsE A).take (i * 3) = cellsE (A.take i) := by
 have h : cellsE A = cellsE (A.take i) ++ cellsE (A.drop i) := by rw [← cellsE_append, List.take_append_drop]
 rw [h, List.take_append_of_le_length (by rw [cellsE_length, List.length_take]; omega), List.take_of_length_le (by rw [cellsE_length, List.length_take]; omega)]
theorem cells_drop {A : List Ent} {i : Nat} (hi : i ≤ A.length) : (cellsE A).drop (i * 3) = cellsE (A.drop i) := by
 have h : cellsE A = cellsE (A.take i) ++ cellsE (A.drop i) := by rw [← cellsE_append, List.take_append_drop]
 have hl : (cellsE (A.take i)).length = i * 3 := by rw [cellsE_length, List.length_take]; omega
 rw [h, List.drop_append_of_le_length (by omega), List.drop_of_length_le (by omega), List.nil_append]
theorem ins_shift {A L : List Ent} {i : Nat} (hi : i ≤ A.length) {l0 : List Value} (h0 : l0.take (A.length * 3) = cellsE A) (hl : (A.length + L.length) * 3 ≤ l0.length) :
 ∃ rest, (l0.take ((i + L.length) * 3) ++ cellsE (A.drop i) ++ l0.drop ((i + L.length) * 3 + (cellsE (A.drop i)).length)).take (i * 3) ++ cellsE L ++ (l0.take ((i + L.length) * 3) ++ cellsE (A.drop i) ++ l0.drop ((i + L.length) * 3 + (cellsE (A.drop i)).length)).drop (i * 3 + (cellsE L).length) = cellsE (insE A i L) ++ rest := by
 refine ⟨l0.drop ((i + L.length) * 3 + (cellsE (A.drop i)).length), ?_⟩
 have e1 : (l0.take ((i + L.length) * 3) ++ cellsE (A.drop i) ++ l0.drop ((i + L.length) * 3 + (cellsE (A.drop i)).length)).take (i * 3) = cellsE (A.take i) := by
  rw [List.append_assoc, List.take_append_of_le_length (by rw [List.length_take]; omega), List.take_take, ← cells_take hi, ← h0, List.take_take];congr 1; omega
 have e2 : (l0.take ((i + L.length) * 3) ++ cellsE (A.drop i) ++ l0.drop ((i + L.length) * 3 + (cellsE (A.drop i)).length)).drop (i * 3 + (cellsE L).length) = cellsE (A.drop i) ++ l0.drop ((i + L.length) * 3 + (cellsE (A.drop i)).length) := by
  have hlen : (l0.take ((i + L.length) * 3)).length = (i + L.length) * 3 := by rw [List.length_take]; omega
  rw [List.append_assoc, cellsE_length L, List.drop_append_of_le_length (by omega), List.drop_of_length_le (by omega), List.nil_append]
 rw [e1, e2];unfold insE;rw [cellsE_append, cellsE_append];simp only [List.append_assoc]
theorem ins_fresh {A L : List Ent} {i : Nat} (hi : i ≤ A.length) {l0 : List Value} (h0 : l0.take (i * 3) = cellsE (A.take i)) (hl : (A.length + L.length) * 3 ≤ l0.length) :
 ∃ rest, (l0.take (i * 3) ++ cellsE L ++ l0.drop (i * 3 + (cellsE L).length)).take ((i + L.length) * 3) ++ cellsE (A.drop i) ++ (l0.take (i * 3) ++ cellsE L ++ l0.drop (i * 3 + (cellsE L).length)).drop ((i + L.length) * 3 + (cellsE (A.drop i)).length) = cellsE (insE A i L) ++ rest := by
 refine ⟨(l0.take (i * 3) ++ cellsE L ++ l0.drop (i * 3 + (cellsE L).length)).drop ((i + L.length) * 3 + (cellsE (A.drop i)).length), ?_⟩
 have e1 : (l0.take (i * 3) ++ cellsE L ++ l0.drop (i * 3 + (cellsE L).length)).take ((i + L.length) * 3) = cellsE (A.take i) ++ cellsE L := by
  have hlen : (l0.take (i * 3) ++ cellsE L).length = (i + L.length) * 3 := by rw [List.length_append, List.length_take, cellsE_length]; omega
  rw [List.take_append_of_le_length (by omega), List.take_of_length_le (by omega), h0]
 rw [e1];unfold insE;rw [cellsE_append, cellsE_append];simp only [List.append_assoc]
theorem upd_len {l0 vs : List Value} {o : Nat} (h : o + vs.length ≤ l0.length) : (l0.take o ++ vs ++ l0.drop (o + vs.length)).length = l0.length := by
 simp only [List.length_append, List.length_take, List.length_drop]; omega
theorem ents_of_blk {g : Nat} {cs : List Value} {t : TypeId} {w : World} {l : List Ent} {cap : Nat} {rest : List Value} (h : Blk g cs.toArray t w) (e : cs = cellsE l ++ rest) (hc : l.length ≤ cap) (hm : cap ≤ 9223372036854775807) : EntsIn (.slice (some ⟨g, 0, none⟩) l.length cap) l w := by
 refine ⟨cellsE_length l, _, _, rfl, hc, hm, fun _ => ⟨g, 0, rfl, h.lt, fun k u hk => ?_⟩, fun e => by cases e⟩;rw [Nat.zero_add, h.cell k, List.getElem?_toArray, e, List.getElem?_append_left (List.getElem?_eq_some_iff.1 hk).1];exact hk
theorem ents_ublk {g o n c : Nat} {L : List Ent} {w : World} (h : EntsIn (.slice (some ⟨g, o, none⟩) n c) L w) (h0 : 0 < L.length) : ∃ cs t mk, w.heap[g]? = some (.cells cs t mk) ∧ cs.size ≠ 0 := by
 obtain ⟨ad, cap, e, -, -, h3, -⟩ := entsIn_cells h
 cases e
 obtain ⟨g', o', e, hg, hc⟩ := h3 h0
 cases e
 have h1 := (hc w (Below.refl _ _) 0 h0).1;unfold World.cell? at h1;dsimp only at h1
 cases hb : w.heap[g]? with
 | none => rw [hb] at h1; cases h1
 | some ob =>
   rw [hb] at h1
   cases ob with
   | cells cs t mk =>
     refine ⟨cs, t, mk, rfl, fun e => ?_⟩
     have : cs[o + 0 * 3]? = some (.int .i64 (eat L 0).log) := by simpa using h1
     have := (Array.getElem?_eq_some_iff.1 this).1;omega
   | _ => cases h1
theorem ents_lt {g o n c : Nat} {L : List Ent} {w : World} (h : EntsIn (.slice (some ⟨g, o, none⟩) n c) L w) (h0 : 0 < L.length) : g < w.heap.size := by
 obtain ⟨cs, t, mk, h1, -⟩ := ents_ublk h h0;exact lt_of_block h1
theorem overlaps_apart2 {P : Program} (w : World) (tS tR e : TypeId) (ht : P.underlying tS = some (.slice e)) (size : Nat) (hz : ∀ w, (Go.sizeOf e).run P w = .ok size w)
 (a b : Addr) (la ca lb cb : Nat) (hne : a.block ≠ b.block) (tA tB : TypeId) (kA kB : Nat)
 (hsa : w.shape? a.block = some (tA, kA)) (hsb : w.shape? b.block = some (tB, kB)) (hkA : kA ≠ 0)
 (hfb : w.frozen? b = false) (hfe : w.frozen? { block := b.block, off := kB } = false) :
 (Extern.SlicesOverlaps.overlaps #[tS, tS] #[tR] #[.slice (some a) la ca, .slice (some b) lb cb]).run P w = .ok (.bool false) w := by
 have hnb : (a.block != b.block) = true := by simpa using hne
 have hnb' : (a.block == b.block) = false := by simpa using hne
 change Sem.run P (α := Value) ((underlying tS) >>= _) w = _
 by_cases h0 : la = 0 ∨ lb = 0 ∨ size = 0
 ·simp [run_underlying ht, hz, h0]
 ·cases kA with
  | zero => exact absurd rfl hkA
  | succ kA =>
    cases hfa : w.frozen? a <;> cases hfa2 : w.frozen? { block := a.block, off := kA + 1 } <;>
     simp [run_underlying ht, hz, h0, hnb, hnb', frozen, noView, viewAt, mayBeOne, stringish, shape, Sem.run, hsa, hsb, hfb, hfe, hfa, hfa2]
open Go.RowKit
theorem fromX_run (ad : Option Addr) (m cap a : Nat) (hb : a ≤ m) (hm : m ≤ cap) (w : World) : (Instr.slice 42 (.slice ad m cap) (some (.int .i64 (a : Int))) none none).run Tryz.prog w = .ok (.slice (fromA ad a 3 cap) (m - a) (cap - a)) w := by
 unfold fromA;by_cases h : cap = a
 ·rw [if_pos h]
  go_simp
 ·rw [if_neg h]
  go_simp
theorem fromX_at (g m cap a : Nat) (k : Int) (hk : k = (a : Int)) (hb : a ≤ m) (hm : m ≤ cap) (ha : a < cap) (w : World) : (Instr.slice 42 (.slice (some ⟨g, 0, none⟩) m cap) (some (.int .i64 k)) none none).run Tryz.prog w = .ok (.slice (some ⟨g, a * 3, none⟩) (m - a) (cap - a)) w := by
 subst hk;have h := fromX_run (some ⟨g, 0, none⟩) m cap a hb hm w;unfold fromA at h;rw [if_neg (by omega)] at h;rw [h];simp only [Option.map_some, add_at, Nat.zero_add]
theorem toX_at (g m cap b : Nat) (k : Int) (hk : k = (b : Int)) (hb : b ≤ cap) (w : World) : (Instr.slice 42 (.slice (some ⟨g, 0, none⟩) m cap) none (some (.int .i64 k)) none).run Tryz.prog w = .ok (.slice (some ⟨g, 0, none⟩) b cap) w := by
 subst hk;go_simp
theorem ins_none (va : Option Addr) (n vc i : Nat) (hi : i ≤ n) (hc : n ≤ vc) (hm : vc ≤ 9223372036854775807) (ua : Option Addr) (uc : Nat) (w : World) :
 Calls Tryz.prog 102 #[.slice va n vc, .int .i64 (i : Int), .slice ua 0 uc] w fun e w' => e = .returned (.slice va n vc) ∧ w' = w := by
 have hs := fun W => fromX_run va n vc i hi hc W
 go_enter Tryz.func102, Tryz.ntmps102
 go_wp2;go_ret;exact ⟨rfl, rfl⟩
theorem ins_end (A L : List Ent) (hl : A.length + L.length ≤ 4000000) (hL : 0 < L.length) (B : Nat) (v u : Value) (w : World) (hB : B ≤ w.heap.size) (hv : ExtsAt B v A w) (hu : EntsIn u L w) :
 Calls Tryz.prog 102 #[v, .int .i64 (A.length : Int), u] w fun e w' => ∃ u', e = .returned u' ∧ ExtsAt B u' (A ++ L) w' ∧ Below B w w' := by
 obtain ⟨va, vc, rfl, p1, p2, -⟩ := shape_of hv;obtain ⟨ua, uc, rfl, u1, u2, -⟩ := entsIn_cells hu;have p2 : vc ≤ 9223372036854775807 := p2;have hs := fun W => fromX_run va A.length vc A.length (Nat.le_refl _) p1 W;have HV := Lib.hid hv;have HU := Lib.hid hu
 have d1 : ((L.length : Int) == 0) = false := by rw [beq_eq_false_iff_ne]; omega
 clear hv hu
 go_enter Tryz.func102, Tryz.ntmps102
 go_wp2_with (at_builtin; refine wpList_appE rfl _ _ 42 53 rfl Tryz.underlying42 ext_info B _ A rfl HV.out _ L rfl HU.out hl hB ?_)
 intro v' w' h g;have HH := Lib.hid h;have HB := Lib.hid (below_of_row HV.out g hB);obtain ⟨va2, vc2, rfl, -⟩ := shape_of h;clear h g;go_wp2;go_ret;exact ⟨_, rfl, by show World.ownsRow _ _ _ _ _ (A ++ L).length _; rw [List.length_append]; exact HH.out, HB.out⟩
theorem ins_room (A L : List Ent) (i : Nat) (hi : i < A.length) (hL : 0 < L.length) (g c : Nat) (cur : Array Value) (hg : A.length + L.length ≤ c) (hc : c ≤ 9223372036854775807) (w : World) (hb : Blk g cur 53 w) (hcur : cur.size = c * 3) (htk : cur.toList.take (A.length * 3) = cellsE A)
 (ug uo uc : Nat) (hu : EntsIn (.slice (some ⟨ug, uo, none⟩) L.length uc) L w) (hug : ug ≠ g) (hLp : 0 < L.length) :
 Calls Tryz.prog 102 #[.slice (some ⟨g, 0, none⟩) A.length c, .int .i64 (i : Int), .slice (some ⟨ug, uo, none⟩) L.length uc] w fun e w' => e = .returned (.slice (some ⟨g, 0, none⟩) (A.length + L.length) c) ∧ EntsIn (.slice (some ⟨g, 0, none⟩) (A.length + L.length) c) (insE A i L) w' ∧ ∀ B, B ≤ g → Below B w w' := by
 have mixed : Tryz.prog.follows .mixedOrders = true := by kernel_rfl
 have hcl : cur.toList.length = c * 3 := by rw [Array.length_toList]; exact hcur
 have hdl : (cellsE (A.drop i)).length = (A.length - i) * 3 := by rw [cellsE_length, List.length_drop]
 have hul : (cellsE L).length = L.length * 3 := cellsE_length L;obtain ⟨R1, hR1⟩ : ∃ R, cur.toList.take ((i + L.length) * 3) ++ cellsE (A.drop i) ++ cur.toList.drop ((i + L.length) * 3 + (cellsE (A.drop i)).length) = R := ⟨_, rfl⟩
 have hR1l : R1.length = c * 3 := by rw [← hR1, upd_len (by omega)]; exact hcl
 obtain ⟨R2, hR2⟩ : ∃ R, R1.take (i * 3) ++ cellsE L ++ R1.drop (i * 3 + (cellsE L).length) = R := ⟨_, rfl⟩;obtain ⟨rest, hre⟩ := ins_shift (L := L) (by omega : i ≤ A.length) htk (by omega);rw [hR1, hR2] at hre
 have hcells : ∀ j v, (cellsE (A.drop i))[j]? = some v → w.drew.cell? ((⟨g, i * 3, none⟩ : Addr).add j) = some v := fun j v hj => by
  have hlt := (List.getElem?_eq_some_iff.1 hj).1;rw [add_at]
  show w.cell? _ = _
  rw [hb.cell, ← hj, ← cells_drop (by omega : i ≤ A.length), ← htk, List.getElem?_drop, List.getElem?_take, if_pos (by omega)]
  simp
 have hb1 : Blk g R1.toArray 53 (w.drew.setRow g R1.toArray) := setRow_blk (show Blk g cur 53 w.drew from hb) _
 have hcp1 : ∀ ty, (Builtin.copy_ #[42, 42] ty #[.slice (some ⟨g, (i + L.length) * 3, none⟩) (A.length + L.length - (i + L.length)) (c - (i + L.length)), .slice (some ⟨g, i * 3, none⟩) (A.length + L.length - i) (c - i)]).run Tryz.prog w.drew = .ok (goInt (Nat.min (A.length + L.length - i) (A.length + L.length - (i + L.length)))) (w.drew.setRow g R1.toArray) := fun ty => by
  rw [← hR1];exact run_copyG w.drew _ _ ty 53 3 g _ _ _ ⟨g, i * 3, none⟩ _ _ cur _ (cellsE (A.drop i)) Tryz.underlying42 ext_size hb (by rw [hdl]; congr 1; simp only [Nat.min_def]; split <;> omega) hcells (by omega) (cellsE_one _)
 have hcells2 : ∀ j v, (cellsE L)[j]? = some v → (w.drew.setRow g R1.toArray).cell? ((⟨ug, uo, none⟩ : Addr).add j) = some v := fun j v hj => by
  have hlt := (List.getElem?_eq_some_iff.1 hj).1;obtain ⟨-, ad, cap, e, -, -, h3, -⟩ := hu
  injection e with e1 e2 e3
  obtain ⟨g', o', e4, -, h5⟩ := h3 (by omega);rw [← e1] at e4
  injection e4 with e4
  injection e4 with e4 e5 e6
  subst e4 e5;rw [add_at];exact (World.cell?_of_block (a := ⟨ug, uo + j, none⟩) (setRow_other w.drew g ug R1.toArray hug)).trans (h5 j v hj)
 have hcp2 : ∀ ty, (Builtin.copy_ #[42, 42] ty #[.slice (some ⟨g, i * 3, none⟩) (A.length + L.length - i) (c - i), .slice (some ⟨ug, uo, none⟩) L.length uc]).run Tryz.prog (w.drew.setRow g R1.toArray) = .ok (goInt (Nat.min L.length (A.length + L.length - i))) ((w.drew.setRow g R1.toArray).setRow g R2.toArray) := fun ty => by
  have h := run_copyG (P := Tryz.prog) (w.drew.setRow g R1.toArray) 42 42 ty 53 3 g (i * 3) (A.length + L.length - i) (c - i) ⟨ug, uo, none⟩ L.length uc R1.toArray _ (cellsE L) Tryz.underlying42 ext_size hb1 (by rw [hul]; congr 1; simp only [Nat.min_def]; split <;> omega) hcells2 (by rw [List.size_toArray]; omega) (cellsE_one _);rw [List.toList_toArray, hR2] at h;exact h
 have hE := ents_of_blk (cap := c) (setRow_blk hb1 R2.toArray) hre (by rw [insE_len (by omega)]; exact hg) hc;rw [insE_len (by omega)] at hE;have HE := Lib.hid hE;have HBW : Hid (∀ B, B ≤ g → Below B w ((w.drew.setRow g R1.toArray).setRow g R2.toArray)) := Lib.hid fun B hB => (((Below.refl B w).drew).trans (setRow_below hB _)).trans (setRow_below hB _);obtain ⟨ucs, ut, mk, hub, hub0⟩ := ents_ublk hu hLp;have hbBlk : Blk g cur 53 w := hb
 have hov : ∀ lb cb, (callFunc 129 #[.slice (some ⟨ug, uo, none⟩) L.length uc, .slice (some ⟨g, (i + L.length) * 3, none⟩) lb cb]).run Tryz.prog w = .ok (.value (.bool false)) w := fun lb cb => by
  rw [run_callFunc_extern Tryz.func129 (by kernel_rfl) (by kernel_rfl) (by kernel_rfl) (e := Extern.SlicesOverlaps.overlaps #[42, 42] #[4]) (by kernel_rfl),
   overlaps_apart2 w 42 4 53 Tryz.underlying42 3 Tryz.sizeOf53 ⟨ug, uo, none⟩ ⟨g, (i + L.length) * 3, none⟩ L.length uc lb cb hug ut 53 ucs.size cur.size (by unfold World.shape?; rw [hub]) (by unfold World.shape?; rw [hb]) hub0 (hbBlk.frozen _) (hbBlk.frozen _)]
  rfl
 have s1 := fun W => fromX_at g A.length c i (i : Int) rfl (by omega) (by omega) (by omega) W;have s2 := fun W => toX_at g A.length c (A.length + L.length) ((A.length : Int) + (L.length : Int)) (by omega) hg W;have s3 := fun W => fromX_at g (A.length + L.length) c (i + L.length) ((i : Int) + (L.length : Int)) (by omega) (by omega) hg (by omega) W;have s4 := fun W => fromX_at g (A.length + L.length) c i (i : Int) rfl (by omega) hg (by omega) W;have HCP1 := Lib.hid hcp1;have HCP2 := Lib.hid hcp2;have hmin := hg;clear hcp1 hcp2 hcells hcells2 hR1 hR2 hre hR1l hE hb1 hub hub0 hbBlk hu hb hcur htk hcl hdl hul;obtain ⟨n, hn⟩ : ∃ n, A.length = n := ⟨_, rfl⟩;obtain ⟨m, hm⟩ : ∃ n, L.length = n := ⟨_, rfl⟩;rw [hn] at hi hg HE s1 s2 s3 s4 HCP1 HCP2 ⊢;rw [hm] at hL hg HE hov s2 s3 s4 HCP1 HCP2 ⊢;clear hn hm hmin
 have d1 : ((m : Int) == 0) = false := by rw [beq_eq_false_iff_ne]; omega
 have d2 : ((i : Int) == (n : Int)) = false := by rw [beq_eq_false_iff_ne]; omega
 have d3 : decide ((n : Int) + (m : Int) > (c : Int)) = false := decide_eq_false (by omega);have d4 : decide ((c : Int) < (n : Int) + (m : Int)) = false := decide_eq_false (by omega)
 go_enter Tryz.func102, Tryz.ntmps102
 have hw1 : IntKind.i64.wrap ((i : Int) + (m : Int)) = (i : Int) + (m : Int) := by rw [IntKind.wrap_i64]; omega
 have hb1 : (0 : Int) ≤ (i : Int) + (m : Int) := by omega
 have hin : i ≤ n := by omega
 have htn : ((i : Int) + (m : Int)).toNat = i + m := by omega
 have hb2 : ¬ (c = i + m) := by omega
 have hb3 : (i : Int) ≤ (n : Int) + (m : Int) := by omega
 have hb4 : ¬ (c = i) := by omega
 go_wp2_with (simp only [hov])
 go_region_law (refine step_copyG rfl _ _ 42 42 rfl _ _ (by simp [Act.eval, Act.put]) (by simp [Act.eval, Act.put]) (HCP1.out _) ?_)
 have hc2 := HCP2.out 3;go_wp2;go_ret;exact ⟨rfl, HE.out, HBW.out⟩
open Go.RowKit
theorem ents_at {g o n c : Nat} {A : List Ent} {w : World} (h : EntsIn (.slice (some ⟨g, o, none⟩) n c) A w) : ∀ j v, (cellsE A)[j]? = some v → g < w.heap.size ∧ w.cell? ⟨g, o + j, none⟩ = some v := fun j v hj => by
 have hlt := (List.getElem?_eq_some_iff.1 hj).1;obtain ⟨-, ad, cap, e, -, -, h3, -⟩ := h
 injection e with e1 e2 e3
 obtain ⟨g', o', e4, h6, h5⟩ := h3 (by omega);rw [← e1] at e4
 injection e4 with e4
 injection e4 with e4 e5 e6
 subst e4 e5;exact ⟨h6, h5 j v hj⟩
theorem zero_len (k : Nat) : (Builtin.zeroCells (Value.cells (.agg #[.int .i64 0, .int .i64 0, .int .i64 0])) k).size = k * 3 := by
 have : Value.cells (.agg #[.int .i64 0, .int .i64 0, .int .i64 0]) = #[.int .i64 0, .int .i64 0, .int .i64 0] := by simp [Value.cells]
 rw [this]
 simp [Builtin.zeroCells]
theorem ins_grow (A L : List Ent) (i : Nat) (hi : i < A.length) (hL : 0 < L.length) (hA4 : A.length ≤ 4000) (hL4 : L.length ≤ 4000) (g c : Nat) (hnc : A.length ≤ c) (hroom : c < A.length + L.length) (w : World) (hv : EntsIn (.slice (some ⟨g, 0, none⟩) A.length c) A w)
 (ug uo uc : Nat) (hu : EntsIn (.slice (some ⟨ug, uo, none⟩) L.length uc) L w) :
 Calls Tryz.prog 102 #[.slice (some ⟨g, 0, none⟩) A.length c, .int .i64 (i : Int), .slice (some ⟨ug, uo, none⟩) L.length uc] w fun e w' => ∃ G, e = .returned (.slice (some ⟨w.heap.size, 0, none⟩) (A.length + L.length) G) ∧ EntsIn (.slice (some ⟨w.heap.size, 0, none⟩) (A.length + L.length) G) (insE A i L) w' ∧ Below w.heap.size w w' := by
 have mixed : Tryz.prog.follows .mixedOrders = true := by kernel_rfl
 obtain ⟨i0, hi0, hz0, hzs, hzb⟩ := info_parts ext_info
 have hdl : (cellsE (A.drop i)).length = (A.length - i) * 3 := by rw [cellsE_length, List.length_drop]
 have htl : (cellsE (A.take i)).length = i * 3 := by rw [cellsE_length, List.length_take]; congr 1; omega
 have hul : (cellsE L).length = L.length * 3 := cellsE_length L
 have hold : (Builtin.firstCells i0.size i (.slice (some ⟨g, 0, none⟩) i c)).run Tryz.prog w.drew = .ok (cellsE (A.take i)).toArray w.drew := by
  rw [hzs];refine run_firstCells_some w.drew 3 i ⟨g, 0, none⟩ i c (cellsE (A.take i)) htl fun j v hj => ?_;have hlt := (List.getElem?_eq_some_iff.1 hj).1;rw [add_at];refine (ents_at hv j v ?_).2;rw [← hj, ← cells_take (by omega : i ≤ A.length), List.getElem?_take, if_pos (by omega)]
 have hik : i + (A.length + L.length - i) = A.length + L.length := by omega
 have hrz : ∀ ty, (Builtin.append_ #[42, 3] ty #[.slice (some ⟨g, 0, none⟩) i c, .int .i64 ((A.length : Int) + (L.length : Int) - (i : Int))]).run Tryz.prog w =
  .ok (.slice (some ⟨w.heap.size, 0, none⟩) (A.length + L.length) (grownCap w (A.length + L.length) c 53)) (w.drew.alloc (.cells ((cellsE (A.take i)).toArray ++ Builtin.zeroCells (Value.cells (.agg #[.int .i64 0, .int .i64 0, .int .i64 0])) (A.length + L.length - i) ++ Builtin.zeroCells (Value.cells (.agg #[.int .i64 0, .int .i64 0, .int .i64 0])) (grownCap w (A.length + L.length) c 53 - (A.length + L.length))) 53)) := fun ty => by
  have h := Lib.run_append_grow_zeros w 42 3 ty 53 i0 _ .i64 .i64 Tryz.underlying42 Tryz.underlying3 hi0 hz0 (some ⟨g, 0, none⟩) i c (cellsE (A.take i)) hold (A.length + L.length - i) (by omega) (by rw [hzs]; omega) (by omega) (by omega) (by rw [hzb]; omega) (by rw [hzb, hik]; exact growslice_fits hroom (by omega));rw [hik] at h;rw [show (A.length : Int) + (L.length : Int) - (i : Int) = ((A.length + L.length - i : Nat) : Int) by omega];exact h
 have hGn : A.length + L.length ≤ grownCap w (A.length + L.length) c 53 := grownCap_ge w _ _ _;have hG63 : grownCap w (A.length + L.length) c 53 ≤ 9223372036854775807 := grownCap_le_maxLen w (A.length + L.length) c 53 (by unfold maxLen; omega);obtain ⟨G, hG⟩ : ∃ G, grownCap w (A.length + L.length) c 53 = G := ⟨_, rfl⟩;rw [hG] at hrz hGn hG63;obtain ⟨ROW, hROW⟩ : ∃ R : Array Value, (cellsE (A.take i)).toArray ++ Builtin.zeroCells (Value.cells (.agg #[.int .i64 0, .int .i64 0, .int .i64 0])) (A.length + L.length - i) ++ Builtin.zeroCells (Value.cells (.agg #[.int .i64 0, .int .i64 0, .int .i64 0])) (G - (A.length + L.length)) = R := ⟨_, rfl⟩
 have hRl : ROW.toList.length = G * 3 := by
  rw [← hROW, Array.length_toList, Array.size_append, Array.size_append, zero_len, zero_len, List.size_toArray, htl];omega
 have hR0 : ROW.toList.take (i * 3) = cellsE (A.take i) := by
  rw [← hROW, Array.toList_append, Array.toList_append, List.append_assoc, List.take_append_of_le_length (by simp [htl]), List.take_of_length_le (by simp [htl])]
 rw [hROW] at hrz;have hb1 : Below w.heap.size w (w.drew.alloc (.cells ROW 53)) := balloc (Below.refl w.heap.size w).drew _;have hk1 : Blk w.heap.size ROW 53 (w.drew.alloc (.cells ROW 53)) := Blk.new ROW 53 w.drew;generalize w.drew.alloc (.cells ROW 53) = W1 at *;obtain ⟨R1, hR1⟩ : ∃ R, ROW.toList.take (i * 3) ++ cellsE L ++ ROW.toList.drop (i * 3 + (cellsE L).length) = R := ⟨_, rfl⟩
 have hR1l : R1.length = G * 3 := by rw [← hR1, upd_len (by omega)]; exact hRl
 obtain ⟨R2, hR2⟩ : ∃ R, R1.take ((i + L.length) * 3) ++ cellsE (A.drop i) ++ R1.drop ((i + L.length) * 3 + (cellsE (A.drop i)).length) = R := ⟨_, rfl⟩;obtain ⟨rest, hre⟩ := ins_fresh (L := L) (by omega : i ≤ A.length) hR0 (by omega);rw [hR1, hR2] at hre;obtain ⟨W2, hW2⟩ : ∃ W, W1.setRow w.heap.size R1.toArray = W := ⟨_, rfl⟩
 have hk2 : Blk w.heap.size R1.toArray 53 W2 := by rw [← hW2]; exact setRow_blk hk1 _
 have hb2 : Below w.heap.size w W2 := by rw [← hW2]; exact hb1.trans (setRow_below (Nat.le_refl _) _)
 have hcp1 : ∀ ty, (Builtin.copy_ #[42, 42] ty #[.slice (some ⟨w.heap.size, i * 3, none⟩) (A.length + L.length - i) (G - i), .slice (some ⟨ug, uo, none⟩) L.length uc]).run Tryz.prog W1 = .ok (goInt (Nat.min L.length (A.length + L.length - i))) W2 := fun ty => by
  rw [← hW2, ← hR1]
  exact run_copyG W1 _ _ ty 53 3 w.heap.size (i * 3) (A.length + L.length - i) (G - i) ⟨ug, uo, none⟩ L.length uc ROW _ (cellsE L) Tryz.underlying42 ext_size hk1 (by rw [hul]; congr 1; simp only [Nat.min_def]; split <;> omega) (fun j v hj => by
   rw [add_at];obtain ⟨k1, k2⟩ := ents_at hu j v hj
   exact (hb1.cell (p := ⟨ug, uo + j, none⟩) k1).trans k2) (by rw [← Array.length_toList]; omega) (cellsE_one _)
 have hcp2 : ∀ ty, (Builtin.copy_ #[42, 42] ty #[.slice (some ⟨w.heap.size, (i + L.length) * 3, none⟩) (A.length + L.length - (i + L.length)) (G - (i + L.length)), .slice (some ⟨g, i * 3, none⟩) (A.length - i) (c - i)]).run Tryz.prog W2.drew = .ok (goInt (Nat.min (A.length - i) (A.length + L.length - (i + L.length)))) (W2.drew.setRow w.heap.size R2.toArray) := fun ty => by
  have h := run_copyG (P := Tryz.prog) W2.drew 42 42 ty 53 3 w.heap.size ((i + L.length) * 3) (A.length + L.length - (i + L.length)) (G - (i + L.length)) ⟨g, i * 3, none⟩ (A.length - i) (c - i) R1.toArray _ (cellsE (A.drop i)) Tryz.underlying42 ext_size hk2 (by rw [hdl]; congr 1; simp only [Nat.min_def]; split <;> omega) (fun j v hj => by
   rw [add_at];have hlt := (List.getElem?_eq_some_iff.1 hj).1;obtain ⟨k1, k2⟩ := ents_at hv (i * 3 + j) v (by rw [← hj, ← cells_drop (by omega : i ≤ A.length), List.getElem?_drop]);rw [Nat.zero_add] at k2
   exact (hb2.drew.cell (p := ⟨g, i * 3 + j, none⟩) k1).trans k2) (by rw [List.size_toArray]; omega) (cellsE_one _)
  rw [List.toList_toArray, hR2] at h;exact h
 have hE := ents_of_blk (cap := G) (setRow_blk (show Blk w.heap.size R1.toArray 53 W2.drew from hk2) R2.toArray) hre (by rw [insE_len (by omega)]; exact hGn) hG63;rw [insE_len (by omega)] at hE;have HE := Lib.hid hE;have HBW := Lib.hid (hb2.drew.trans (setRow_below (w := W2.drew) (Nat.le_refl w.heap.size) R2.toArray));have s0 := fun W => fromX_at g A.length c i (i : Int) rfl (by omega) hnc (by omega) W;have s1 := fun W => toX_at g A.length c i (i : Int) rfl (by omega) W;have s2 := fun W => fromX_at w.heap.size (A.length + L.length) G i (i : Int) rfl (by omega) hGn (by omega) W;have s3 := fun W => fromX_at w.heap.size (A.length + L.length) G (i + L.length) ((i : Int) + (L.length : Int)) (by omega) (by omega) hGn (by omega) W;have HRZ := Lib.hid hrz;have HCP1 := Lib.hid hcp1;have HCP2 := Lib.hid hcp2;have hnn : A.length ≤ 4000 := hA4;clear hcp1 hcp2 hrz hE hk1 hk2 hb1 hb2 hW2 hre hR1 hR2 hR1l hROW hRl hR0 hG hold hik hdl htl hul hi0 hz0 hzs hzb hu hv;obtain ⟨n, hn⟩ : ∃ n, A.length = n := ⟨_, rfl⟩;obtain ⟨m, hm⟩ : ∃ n, L.length = n := ⟨_, rfl⟩;rw [hn] at hi hnc hroom hnn hA4 hGn HE s0 s1 s2 s3 HRZ HCP1 HCP2 ⊢;rw [hm] at hL hL4 hroom hGn HE s2 s3 HRZ HCP1 HCP2 ⊢;clear hn hm
 have d1 : ((m : Int) == 0) = false := by rw [beq_eq_false_iff_ne]; omega
 have d2 : ((i : Int) == (n : Int)) = false := by rw [beq_eq_false_iff_ne]; omega
 have d3 : decide ((n : Int) + (m : Int) > (c : Int)) = true := decide_eq_true (by omega);have d4 : decide ((c : Int) < (n : Int) + (m : Int)) = true := decide_eq_true (by omega)
 have hw1 : IntKind.i64.wrap ((i : Int) + (m : Int)) = (i : Int) + (m : Int) := by rw [IntKind.wrap_i64]; omega
 have hb1 : (0 : Int) ≤ (i : Int) + (m : Int) := by omega
 have hin : i ≤ n := by omega
 have htn : ((i : Int) + (m : Int)).toNat = i + m := by omega
 have hb2 : ¬ (G = i + m) := by omega
 have hb3 : (i : Int) ≤ (n : Int) := by omega
 have hb4 : ¬ (c = i) := by omega
 have hb5 : (i : Int) + (m : Int) ≤ (n : Int) + (m : Int) := by omega
 have hc1 := HCP1.out 3
 go_enter Tryz.func102, Tryz.ntmps102
 go_wp2_with (at_builtin; refine Lib.wpList_append_run _ rfl _ _ _ _ rfl _ _ rfl rfl _ _ (HRZ.out _) ?_)
 go_region_law (refine step_copyG rfl _ _ 42 42 rfl _ _ (by simp [Act.eval, Act.put]) (by simp [Act.eval, Act.put]) (HCP2.out _) ?_)
 go_wp2;go_ret;exact ⟨G, rfl, HE.out, HBW.out⟩
end Go.Proofs.YtknefoemgifbfaaGreat
