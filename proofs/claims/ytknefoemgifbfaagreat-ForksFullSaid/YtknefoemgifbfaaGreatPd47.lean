import Derived.Test.YtknefoemgifbfaaGreatPd04
import Derived.Lib.Walk
set_option linter.unusedVariables false
set_option linter.unusedSimpArgs false
set_option linter.constructorNameAsVariable false
set_option maxRecDepth 100000
set_option maxHeartbeats 16000000
namespace Go.Proofs.YtknefoemgifbfaaGreat
open Go.RowKit
theorem fkheads_far (S : Shp) (hS : S.length ≤ 1000) (r : Nat) (hr : S.length ≤ r + 1) (hr2 : r ≤ 1000000) (v : Value) (w : World) (hv : ShapeIn v S w) :
 Calls Tryz.prog 85 #[v, .int .i64 (r : Int)] w fun e w' => ∃ u, e = .returned u ∧ EntsAt w.heap.size u (headsA S r) w' ∧ Below w.heap.size w w' := by
 obtain ⟨ad, cap, rfl, c1, c2, -⟩ := shape_cell hv;have d0 : decide ((r : Int) + 1 ≥ (S.length : Int)) = true := decide_eq_true (by omega);have d1 : decide ((S.length : Int) ≤ (r : Int) + 1) = true := decide_eq_true (by omega);unfold headsA;rw [rowA_none (by omega)];clear hv;generalize S.length = n at *
 go_enter Tryz.func85, Tryz.ntmps85
 go_wp2;go_ret;exact ⟨_, rfl, World.ownsRow_nil _ _ _ _, Below.refl _ _⟩
theorem fkheads_each (S : Shp) (hS : SmallS S) (r : Nat) (hr2 : r ≤ 1000000) (v : Value) (w : World) (hv : ShapeIn v S w) :
 Calls Tryz.prog 85 #[v, .int .i64 (r : Int)] w fun e w' => ∃ u, e = .returned u ∧ EntsAt w.heap.size u (headsA S r) w' ∧ Below w.heap.size w w' := by
 by_cases h : r ≤ S.length
 ·exact fkheads_any S hS r h v w hv
 ·exact fkheads_far S hS.1 r (by omega) hr2 v w hv
theorem nodes_one {F : Fr} {g : Nat} {v : Value} {l : List Ent} {w : World} (hg : Blk g #[v] 22 w) (h : EntsT F v l w) : NodesT F (.slice (some ⟨g, 0, none⟩) 1 1) [l] w := by
 refine ⟨[v], rfl, fun a r => ?_, fun k a b => ?_⟩
 ·have hk : Blk g #[v] 22 a := (F.ty r (.inr ⟨_, _, hg⟩)).trans hg
  refine ⟨rfl, _, _, rfl, Nat.le_refl _, by unfold maxLen; omega, fun _ => ⟨g, 0, rfl, hk.lt, fun k u hk2 => ?_⟩, fun e => by cases e⟩;rw [Nat.zero_add, hk.cell k]
  simpa using hk2
 ·match k, a with
  | 0, _ => exact h
structure Chooser (ch : Choose) (fch : Nat) : Prop where
 ok : ∀ ns l, SpanOk ns l (ch ns l)
 ent : ∀ args w, (callFunc fch args).run Tryz.prog w = .ok (.enter fch args) w
 call : ∀ ns l v u W, ns.length ≤ 50000 → l.length ≤ 50000 → NodesIn v ns W → EntsIn u l W → Calls Tryz.prog fch #[v, u] W fun e w' => e = .returned (spanV (ch ns l)) ∧ Below W.heap.size W w'
theorem fkstack_any (C : Nat) (old : Shp) (hold : WellS old) (hS : SmallS old) (hrw : ∀ r, (rowA old r).length ≤ 50000) (L : List Ent) (hL : L.length ≤ 50000) (ch : Choose) (fch : Nat) (hch : Chooser ch fch) (vo vl : Value) (w : World) (ho : ShapeT (frC C) vo old w) (hl : EntsIn vl L w) :
 Calls Tryz.prog 106 #[vo, vl, .func (.func fch) #[] #[]] w fun e w' => ∃ u, e = .returned u ∧ ShapeT (frC C) u (stackA old L ch) w' ∧ Below w.heap.size w w' := by
 have hent := hch.ent;have HCH := Lib.hid hch;have HO := Lib.hid ho;have HOW := Lib.hid hold;have HSM := Lib.hid hS;have HRW := Lib.hid hrw;obtain ⟨oa, oc, rfl, o1, o2, o3⟩ := StRows.cells ho;have HOC := Lib.hid o3;obtain ⟨la, lc, rfl, l1, l2, l3, -⟩ := entsIn_cells hl;obtain ⟨w2, hmk, hown, b2⟩ := room_run (T := 22) (e := 31) Tryz.underlying22 entry_info L.length (by omega) w;have HL3 := Lib.hid l3;have HO2 := Lib.hid hown;have HB2 := Lib.hid b2
 have HLN : Hid (∀ k, k ≤ L.length → (L.take k).length = k) := Lib.hid fun k hk => by rw [List.length_take]; omega
 have HNX : Hid (∀ k, k < L.length → L.take (k + 1) = L.take k ++ [eat L k]) := Lib.hid fun k hk => by rw [eat_eq hk, List.take_append_getElem hk]
 have HQ0 : Hid (stackA old L ch = stackR old ch (old.length + L.length) 0 L []) := Lib.hid rfl;have hol := hS.1;obtain ⟨on, hon⟩ : ∃ n, old.length = n := ⟨_, rfl⟩;have HON := Lib.hid hon;rw [hon] at o1 hol;clear ho hold hS hrw hl hch o3 l3 hown b2;rw [hon];clear hon
 go_enter Tryz.func106, Tryz.ntmps106
 go_wp2
 go_loopw [7, 9, 19] (fun lv q9 p wr => ∃ k : Nat, p = .int .i64 (k : Int) ∧ k ≤ L.length ∧ Hid (EntsAt w.heap.size lv (L.take k) wr) ∧ Hid (Below w.heap.size w wr)) (fun _ _ p _ => L.length - (intOf p).toNat)
 case atStart => exact ⟨0, rfl, Nat.zero_le _, HO2, HB2⟩
 case round =>
  obtain ⟨k, rfl, hk, HR, HB⟩ := hrel;clear HO2 HB2 hmk;by_cases hlt : k < L.length
  ·obtain ⟨gu, ou, rfl, -, h9⟩ := HL3.out (by omega)
   obtain ⟨e1, e2, e3⟩ := h9 wr HB.out k hlt;have HLK := Lib.hid (HNX.out k hlt);have hln := HLN.out k hk;have hsq := HB.out.size;clear h9 HL3 HNX HLN;generalize eat L k = y at *;obtain ⟨ya, yp, yz⟩ := y;dsimp only at e1 e2 e3;have HLN2 := Lib.hid hln;clear hln
   go_wp2_with (at_builtin; refine wpList_appE rfl _ _ 22 31 rfl Tryz.underlying22 entry_info w.heap.size _ (L.take k) rfl ?_ _ [⟨ya, yp, yz⟩] rfl ?_ ?_ ?_ ?_)
   ·exact (HR.out.alloc _).alloc _
   ·have h9 := one_in (wr.alloc (.cells (entC ⟨ya, yp, yz⟩) 53)) ⟨ya, yp, yz⟩ 31
    rw [size_alloc] at h9;exact h9
   ·rw [HLN2.out]; show _ + 1 ≤ _; omega
   ·rw [size_alloc, size_alloc]; omega
   intro v' w5 h5 g5;have HR5 : Hid (EntsAt w.heap.size v' (L.take (k + 1)) w5) := Lib.hid (by rw [HLK.out]; exact ents_snoc (by rw [HLN2.out]; exact h5));have HB5 : Hid (Below w.heap.size w w5) := Lib.hid ((balloc (balloc HB.out _) _).trans (below_of_row ((HR.out.alloc _).alloc _) g5 (by rw [size_alloc, size_alloc]; omega)));clear h5 g5 HR HB;go_wp2;exact ⟨⟨k + 1, by go_num, by omega, HR5, HB5⟩, by simp [intOf]; omega⟩
  ·obtain rfl : k = L.length := by omega
   have HR1 : Hid (EntsAt w.heap.size _ L wr) := Lib.hid (by have := HR.out; rw [List.take_length] at this; exact this);have HBW := HB;have HS0 : Hid (Stk C w.heap.size (.slice none 0 0) [] wr) := Lib.hid ⟨[], rfl, World.ownsRow_nil _ _ _ _, fun k h => by simp at h⟩;clear HR HLN HNX HL3 HB;go_wp2
   go_loopg [7, 10, 11, 12, 13] (on + L.length) (fun kx lv nv p q12 q13 wz => ∃ (r : Nat) (l : List Ent) (acc : Shp), p = .int .i64 (r : Int) ∧ r + kx ≤ on + L.length ∧ l.length ≤ 50000 ∧ acc.length = r ∧ (on - r) + l.length ≤ kx ∧ Hid (EntsAt w.heap.size lv l wz) ∧ Hid (Stk C w.heap.size nv acc wz) ∧ Hid (Below w.heap.size w wz) ∧ Hid (stackA old L ch = stackR old ch kx r l acc))
   case atStart => exact ⟨0, L, [], rfl, by omega, by omega, rfl, by omega, HR1, HS0, HBW, by rw [HON.out] at HQ0; exact HQ0⟩
   case round =>
    obtain ⟨r, l, acc, rfl, hrk, hl5, hacc, hkx, HR, HS, HB, HQ⟩ := hrel;clear HR1 HS0 HBW HQ0;obtain ⟨va, vc, rfl, -, vc2, -⟩ := shape_of HR.out;have vc2 : vc ≤ 9223372036854775807 := vc2;obtain ⟨nva, nvc, rfl, nvc2⟩ := HS.out.shape;have hws := HB.out.size;obtain ⟨m, hm⟩ : ∃ m, l.length = m := ⟨_, rfl⟩;by_cases h4 : m ≤ 4
    ·have d1 : decide ((m : Int) > 4) = false := decide_eq_false (by omega)
     have d2 : decide ((4 : Int) < (m : Int)) = false := decide_eq_false (by omega);have HEQ : Hid (stackA old L ch = acc ++ [[l]]) := Lib.hid (by rw [HQ.out, stack_stop (by omega)]);have hb1 := balloc1 wr (.cells #[.slice va m vc] 22)
     have hxl : EntsT (frG C w.heap.size) (.slice va m vc) l wr := by have := EntsT.of_own (C := frG C w.heap.size) HR.out; rw [hm] at this; exact this
     have hx1 : NodesT (frG C w.heap.size) (.slice (some ⟨wr.heap.size, 0, none⟩) 1 1) [l] (wr.alloc (.cells #[.slice va m vc] 22)) := nodes_one (Blk.new _ _ _) (EntsT.kept hxl ((frG C w.heap.size).below hb1));obtain ⟨v', w', ⟨ad, n, cap, rfl⟩, hpr, hst, hpb, -⟩ := (HS.out.kept hb1).push (by rw [size_alloc]; omega) (by omega) hx1 rfl;rw [size_alloc] at hpr;have HST := Lib.hid hst.st;have HBF := Lib.hid (balloc HB.out (.cells #[.slice va m vc] 22));have HPB := Lib.hid hpb;rw [hm];have HPR := Lib.hid hpr;clear hst hpb hpr HR HS hx1 hxl
     go_wp2_with (at_builtin; refine Lib.wpList_append_run _ rfl _ _ _ _ rfl _ _ rfl rfl _ _ HPR.out ?_)
     go_wp2;go_ret;exact ⟨_, rfl, by rw [HEQ.out]; exact HST.out, HBF.out.trans HPB.out⟩
    ·have d1 : decide ((m : Int) > 4) = true := decide_eq_true (by omega)
     have d2 : decide ((4 : Int) < (m : Int)) = true := decide_eq_true (by omega);obtain ⟨hle, hlt2⟩ := stack_less HOW.out (ch := ch) HCH.out.ok (l := l) (by omega) r
     have hr6 : r ≤ 1000000 := by omega
     have HHD : Hid (Calls Tryz.prog 85 #[.slice oa on oc, .int .i64 (r : Int)] wr fun e w' => ∃ u, e = .returned u ∧ EntsAt wr.heap.size u (headsA old r) w' ∧ Below wr.heap.size wr w') := Lib.hid (by
      have h9 := fkheads_each old HSM.out r hr6 _ wr (ShapeT.in (ShapeT.keep HO.out (Turns.of_below HB.out)));rw [HON.out] at h9
      exact h9)
     have HLV : Hid (EntsT (frG C w.heap.size) (.slice va m vc) l wr) := Lib.hid (by have := EntsT.of_own (C := frG C w.heap.size) HR.out; rw [hm] at this; exact this);by_cases hr : r + 1 < on
     ·obtain ⟨g, o, u, rfl, hocell, hnode⟩ := HOC.out r (by rw [HON.out]; omega)
      have oc1 := hocell wr (Turns.of_below HB.out)
      have hor : oldN old r = old[r]'(by rw [HON.out]; omega) := by unfold oldN; rw [if_pos (by rw [HON.out]; omega), rowA_at]
      obtain ⟨na, nc, rfl, -⟩ := StRows.cells hnode;have HNN : Hid (NodesT (frG C w.heap.size) (.slice na (oldN old r).length nc) (oldN old r) wr) := Lib.hid (by rw [hor]; exact nodes_gen hnode (Nat.le_refl _) HB.out);rw [← hor] at oc1;clear hnode hocell hor;have d3 : decide ((r : Int) < (on : Int) - 1) = true := decide_eq_true (by omega);rw [hm];go_wp2_with fail
      refine HHD.out.mono ?_; rintro e w3 ⟨uh, rfl, hh, b3⟩;obtain ⟨ha, hn', hc', rfl⟩ := own_slice hh;have HH3 := Lib.hid hh;have HB3 := Lib.hid (HB.out.trans (b3.mono HB.out.size));have HN3 : Hid (NodesT (frG C w.heap.size) _ (oldN old r) w3) := Lib.hid (NodesT.keep HNN.out ((frG C w.heap.size).below b3));have HL3 := Lib.hid (EntsT.kept HLV.out ((frG C w.heap.size).below b3));have HS3 := Lib.hid (HS.out.kept b3)
      have hon5 : (oldN old r).length ≤ 50000 := by
       unfold oldN;split
       ·exact HRW.out r
       ·simp
      clear hh b3 HHD HNN HLV HS HB HR;go_wp2_with fail
      refine (HCH.out.call _ _ _ _ _ hon5 hl5 HN3.out.in HL3.out.now).mono ?_; rintro e w4 ⟨rfl, b4⟩;have HH4 := Lib.hid (row_kept HH3.out b4);have HB4 := Lib.hid (HB3.out.trans (b4.mono HB3.out.size));have HN4 := Lib.hid (NodesT.keep HN3.out ((frG C w.heap.size).below b4));have HL4 := Lib.hid (EntsT.kept HL3.out ((frG C w.heap.size).below b4));have HS4 := Lib.hid (HS3.out.kept b4);clear b4 HH3 HB3 HN3 HL3 HS3;go_wp2_with fail
      refine (fkpack_any (frG C w.heap.size) (oldN old r) (headsA old r) l _ (HCH.out.ok _ _) (HOW.out.old r).1 hon5 hl5 _ _ _ w4 HN4.out (entsAt_in HH4.out) HL4.out).mono ?_; rintro e w5 ⟨un, uh2, rfl, hp, he, b5⟩;obtain ⟨ea, en, ec, rfl⟩ := own_slice he;obtain ⟨pa, pn, pc, rfl⟩ := parts_shape hp;have hB5 := HB4.out.trans (b5.mono HB4.out.size);have he5 := row_down (B' := w.heap.size) HB4.out.size he;obtain ⟨v', w6, ⟨ad, n, cap, rfl⟩, hpr, hst, hpb, hpg⟩ := (HS4.out.kept b5).push hB5.size (by omega) (StRows.own (fr_n _) hp) rfl;have HE6 : Hid (EntsAt w.heap.size (.slice ea en ec) (packH (headsA old r) l (ch (oldN old r) l)) w6) := Lib.hid (own_eq he5 fun q hq => (frG C w.heap.size).ty hpg (.inl (own_ty he5 hq).1));have HS6 := Lib.hid hst;have HB6 := Lib.hid (hB5.trans hpb);rw [hacc] at hpr;have HPR := Lib.hid hpr;clear hst hpb hpr hpg he5 hB5 he hp HS4 HL4 HN4 HB4 HH4
      go_wp2_with (at_builtin; refine Lib.wpList_append_run _ rfl _ _ _ _ rfl _ _ rfl rfl _ _ HPR.out ?_)
      go_wp2;obtain ⟨kx, hkx2⟩ : ∃ kx, gk = kx + 1 := ⟨gk - 1, by omega⟩;have HQ6 : Hid (stackA old L ch = stackR old ch kx (r + 1) (packH (headsA old r) l (ch (oldN old r) l)) (acc ++ [packN (oldN old r) l (ch (oldN old r) l)])) := Lib.hid (by rw [HQ.out, hkx2, stack_go (by omega)]);rw [HON.out] at hlt2
      go_roundg kx
      case measure => omega
      exact ⟨r + 1, packH (headsA old r) l (ch (oldN old r) l), acc ++ [packN (oldN old r) l (ch (oldN old r) l)], by go_num, by omega, by omega, by simp [hacc], by omega, HE6, HS6, HB6, HQ6⟩
     ·have hor : oldN old r = [] := by unfold oldN; rw [if_neg (by rw [HON.out]; omega)]
      have HNN : Hid (NodesT (frG C w.heap.size) (.slice none 0 0) (oldN old r) wr) := Lib.hid (by rw [hor]; exact nodes_nil _ _);have d3 : decide ((r : Int) < (on : Int) - 1) = false := decide_eq_false (by omega);clear hor;rw [hm];go_wp2_with fail
      refine HHD.out.mono ?_; rintro e w3 ⟨uh, rfl, hh, b3⟩;obtain ⟨ha, hn', hc', rfl⟩ := own_slice hh;have HH3 := Lib.hid hh;have HB3 := Lib.hid (HB.out.trans (b3.mono HB.out.size));have HN3 : Hid (NodesT (frG C w.heap.size) _ (oldN old r) w3) := Lib.hid (NodesT.keep HNN.out ((frG C w.heap.size).below b3));have HL3 := Lib.hid (EntsT.kept HLV.out ((frG C w.heap.size).below b3));have HS3 := Lib.hid (HS.out.kept b3)
      have hon5 : (oldN old r).length ≤ 50000 := by
       unfold oldN;split
       ·exact HRW.out r
       ·simp
      clear hh b3 HHD HNN HLV HS HB HR;go_wp2_with fail
      refine (HCH.out.call _ _ _ _ _ hon5 hl5 HN3.out.in HL3.out.now).mono ?_; rintro e w4 ⟨rfl, b4⟩;have HH4 := Lib.hid (row_kept HH3.out b4);have HB4 := Lib.hid (HB3.out.trans (b4.mono HB3.out.size));have HN4 := Lib.hid (NodesT.keep HN3.out ((frG C w.heap.size).below b4));have HL4 := Lib.hid (EntsT.kept HL3.out ((frG C w.heap.size).below b4));have HS4 := Lib.hid (HS3.out.kept b4);clear b4 HH3 HB3 HN3 HL3 HS3;go_wp2_with fail
      refine (fkpack_any (frG C w.heap.size) (oldN old r) (headsA old r) l _ (HCH.out.ok _ _) (HOW.out.old r).1 hon5 hl5 _ _ _ w4 HN4.out (entsAt_in HH4.out) HL4.out).mono ?_; rintro e w5 ⟨un, uh2, rfl, hp, he, b5⟩;obtain ⟨ea, en, ec, rfl⟩ := own_slice he;obtain ⟨pa, pn, pc, rfl⟩ := parts_shape hp;have hB5 := HB4.out.trans (b5.mono HB4.out.size);have he5 := row_down (B' := w.heap.size) HB4.out.size he;obtain ⟨v', w6, ⟨ad, n, cap, rfl⟩, hpr, hst, hpb, hpg⟩ := (HS4.out.kept b5).push hB5.size (by omega) (StRows.own (fr_n _) hp) rfl;have HE6 : Hid (EntsAt w.heap.size (.slice ea en ec) (packH (headsA old r) l (ch (oldN old r) l)) w6) := Lib.hid (own_eq he5 fun q hq => (frG C w.heap.size).ty hpg (.inl (own_ty he5 hq).1));have HS6 := Lib.hid hst;have HB6 := Lib.hid (hB5.trans hpb);rw [hacc] at hpr;have HPR := Lib.hid hpr;clear hst hpb hpr hpg he5 hB5 he hp HS4 HL4 HN4 HB4 HH4
      go_wp2_with (at_builtin; refine Lib.wpList_append_run _ rfl _ _ _ _ rfl _ _ rfl rfl _ _ HPR.out ?_)
      go_wp2;obtain ⟨kx, hkx2⟩ : ∃ kx, gk = kx + 1 := ⟨gk - 1, by omega⟩;have HQ6 : Hid (stackA old L ch = stackR old ch kx (r + 1) (packH (headsA old r) l (ch (oldN old r) l)) (acc ++ [packN (oldN old r) l (ch (oldN old r) l)])) := Lib.hid (by rw [HQ.out, hkx2, stack_go (by omega)]);rw [HON.out] at hlt2
      go_roundg kx
      case measure => omega
      exact ⟨r + 1, packH (headsA old r) l (ch (oldN old r) l), acc ++ [packN (oldN old r) l (ch (oldN old r) l)], by go_num, by omega, by omega, by simp [hacc], by omega, HE6, HS6, HB6, HQ6⟩
open Go.RowKit
theorem fwd_stop {ns : List (List Ent)} {l : List Ent} {s : Span} (h : ¬ (s.first < s.last ∧ beginsA (l.drop s.start) (nodeAt ns s.first) = true)) : ∀ k, fwdA ns l k s = s
 | 0 => rfl
 | k + 1 => by unfold fwdA; rw [if_neg h]
theorem bwd_stop {ns : List (List Ent)} {l : List Ent} {s : Span} (h : ¬ (s.first < s.last ∧ endsA ((l.drop s.start).take (s.stop - s.start)) (nodeAt ns (s.last - 1)) = true)) : ∀ k, bwdA ns l k s = s
 | 0 => rfl
 | k + 1 => by unfold bwdA; rw [if_neg h]
theorem wide_stop {ns : List (List Ent)} {s : Span} (h : ¬ (0 < s.stop - s.start ∧ s.stop - s.start < 5 ∧ s.last - s.first < ns.length)) : ∀ k, widerA ns k s = s
 | 0 => rfl
 | k + 1 => by unfold widerA; rw [if_neg h]
theorem span_fwd1 {ns : List (List Ent)} {l : List Ent} {s : Span} (h : SpanOk ns l s) (hs : s.stop = l.length) (hc : s.first < s.last ∧ beginsA (l.drop s.start) (nodeAt ns s.first) = true) : SpanOk ns l ⟨s.first + 1, s.last, s.start + (nodeAt ns s.first).length, s.stop⟩ := by
 have := (span_fwd 1 h hs).1;unfold fwdA at this;rw [if_pos hc] at this;exact this
theorem span_bwd1 {ns : List (List Ent)} {l : List Ent} {s : Span} (h : SpanOk ns l s) (hc : s.first < s.last ∧ endsA ((l.drop s.start).take (s.stop - s.start)) (nodeAt ns (s.last - 1)) = true) : SpanOk ns l ⟨s.first, s.last - 1, s.start, s.stop - (nodeAt ns (s.last - 1)).length⟩ := by
 have := span_bwd 1 h;unfold bwdA at this;rw [if_pos hc] at this;exact this
structure SpAt (X : Nat) (W1 : World) (s : Span) (wr : World) : Prop where
 x : X < W1.heap.size
 blk : Blk X (spanC s) 200 wr
 z : Zone X (X + 1) W1 wr
theorem SpAt.kept {X : Nat} {W1 : World} {s : Span} {w w' : World} (h : SpAt X W1 s w) (b : Below w.heap.size w w') : SpAt X W1 s w' := ⟨h.x, h.blk.kept1 b, h.z.trans (Zone.of_below b _ _)⟩
theorem SpAt.set {X : Nat} {W1 : World} {s s' : Span} {w : World} (h : SpAt X W1 s w) (i : Nat) (v : Value) (e : (spanC s).setIfInBounds i v = spanC s') : SpAt X W1 s' (w.setCell ⟨X, i, none⟩ v) := ⟨h.x, by have := h.blk.set i v; rwa [e] at this, h.z.set (p := ⟨X, i, none⟩) (Nat.le_refl _) (Nat.lt_succ_self _) v⟩
theorem SpAt.cells {X : Nat} {W1 : World} {s : Span} {w : World} (h : SpAt X W1 s w) : ∀ q : BelowP w, q.to.cell? ⟨X, 0, none⟩ = some (.int .i64 (s.first : Int)) ∧ q.to.cell? ⟨X, 1, none⟩ = some (.int .i64 (s.last : Int)) ∧ q.to.cell? ⟨X, 2, none⟩ = some (.int .i64 (s.start : Int)) ∧ q.to.cell? ⟨X, 3, none⟩ = some (.int .i64 (s.stop : Int)) := fun q =>
 ⟨(h.blk.kept1 q.h).cell 0, (h.blk.kept1 q.h).cell 1, (h.blk.kept1 q.h).cell 2, (h.blk.kept1 q.h).cell 3⟩
theorem unlike_any (ns : List (List Ent)) (l : List Ent) (hl : l.length ≤ 100000) (hn : ns.length ≤ 100000) (v u : Value) (w : World) (hv : NodesIn v ns w) (hu : EntsIn u l w) :
 Calls Tryz.prog 107 #[v, u] w fun e w' => e = .returned (spanV (unlikeA ns l)) ∧ Below w.heap.size w w' := by
 have mixed : Tryz.prog.follows .mixedOrders = true := by kernel_rfl
 have b0 := balloc1 w (.cells #[.int .i64 0, .int .i64 0, .int .i64 0, .int .i64 0] 200);have HAL := Lib.hid (all_any ns l v u _ (nodesIn_kept hv b0) (hu.kept b0));have HR0 : Hid (Blk w.heap.size #[.int .i64 0, .int .i64 0, .int .i64 0, .int .i64 0] 200 (w.alloc (.cells #[.int .i64 0, .int .i64 0, .int .i64 0, .int .i64 0] 200))) := Lib.hid (Blk.new _ _ _);have HV := Lib.hid hv;have HU := Lib.hid hu;have HB0 := Lib.hid b0;obtain ⟨na, nc, rfl, n1, n2, n3⟩ := node_len hv;obtain ⟨la, lc, rfl, l1, l2, -⟩ := entsIn_cells hu;have HN := Lib.hid n3;have HS0 := Lib.hid (span_all ns l);have HU0 : Hid (unlikeA ns l = widerA ns ns.length (bwdA ns l ns.length (fwdA ns l ns.length (spanAll ns l)))) := Lib.hid rfl;clear hv hu b0 n3
 go_enter Tryz.func107, Tryz.ntmps107
 go_wp2_with fail
 refine HAL.out.mono ?_; rintro e w2 ⟨rfl, b2⟩;have HB2 := Lib.hid (bnext HB0.out b2);have HR2 := Lib.hid (HR0.out.kept1 b2);have b3 : Below w2.heap.size w2 (w2.alloc (.cells (spanC (spanAll ns l)) 200)) := balloc1 _ _;have HA3 : Hid (SpAt w2.heap.size (w2.alloc (.cells (spanC (spanAll ns l)) 200)) (spanAll ns l) (w2.alloc (.cells (spanC (spanAll ns l)) 200))) := Lib.hid ⟨by rw [size_alloc]; omega, Blk.new _ _ _, Zone.refl _ _ _⟩;have HB3 := Lib.hid (bnext HB2.out b3);have HR3 := Lib.hid (HR2.out.kept1 b3);have HRX : Hid (w.heap.size < w2.heap.size) := Lib.hid HR2.out.lt;have HWX := Lib.hid HB2.out.size;obtain ⟨s0, hs0⟩ : ∃ s, spanAll ns l = s := ⟨_, rfl⟩
 have hs0t : s0.stop = l.length := by rw [← hs0]; rfl
 have hs0k : s0.last - s0.first ≤ ns.length := by rw [← hs0]; exact Nat.sub_le _ _
 rw [hs0] at HS0 HU0 HA3 HB3 HR3 ⊢;clear b2 b3 HB0 HR0 HB2 HR2 HAL hs0;obtain ⟨F0, T0, A0, Z0⟩ := s0;dsimp only at hs0t hs0k;have HST := Lib.hid (And.intro hs0t hs0k);clear hs0t hs0k;have HA3 : Hid (SpAt w2.heap.size (w2.alloc (.cells #[.int .i64 (F0 : Int), .int .i64 (T0 : Int), .int .i64 (A0 : Int), .int .i64 (Z0 : Int)] 200)) ⟨F0, T0, A0, Z0⟩ (w2.alloc (.cells #[.int .i64 (F0 : Int), .int .i64 (T0 : Int), .int .i64 (A0 : Int), .int .i64 (Z0 : Int)] 200))) := HA3;have HB3 : Hid (Below w.heap.size w (w2.alloc (.cells #[.int .i64 (F0 : Int), .int .i64 (T0 : Int), .int .i64 (A0 : Int), .int .i64 (Z0 : Int)] 200))) := HB3;have HR3 : Hid (Blk w.heap.size #[.int .i64 0, .int .i64 0, .int .i64 0, .int .i64 0] 200 (w2.alloc (.cells #[.int .i64 (F0 : Int), .int .i64 (T0 : Int), .int .i64 (A0 : Int), .int .i64 (Z0 : Int)] 200))) := HR3;go_wp2;generalize w2.alloc (.cells #[.int .i64 (F0 : Int), .int .i64 (T0 : Int), .int .i64 (A0 : Int), .int .i64 (Z0 : Int)] 200) = w3 at *;have HXW := HWX.out;generalize w2.heap.size = X at *;have HBZ : Hid (∀ s wr, SpAt X w3 s wr → Below w.heap.size w wr) := Lib.hid fun s wr h => HB3.out.trans (h.z.below HB3.out.size HXW);have HS00 : Hid (SpanOk ns l ⟨F0, T0, A0, Z0⟩ ∧ Span.stop ⟨F0, T0, A0, Z0⟩ = l.length) := Lib.hid (And.intro HS0.out HST.out.1)
 go_loopg [] ns.length (fun kx wr => ∃ s : Span, Hid (SpAt X w3 s wr) ∧ Hid (SpanOk ns l s ∧ s.stop = l.length) ∧ s.last - s.first ≤ kx ∧ Hid (unlikeA ns l = widerA ns ns.length (bwdA ns l ns.length (fwdA ns l kx s))))
 case atStart => exact ⟨⟨F0, T0, A0, Z0⟩, HA3, HS00, HST.out.2, HU0⟩
 case round =>
  obtain ⟨s, HSA, HSO, hk, HQ⟩ := hrel;clear HA3 HS0 HS00 HU0 HST;obtain ⟨q1, q2, q3, q4, q5, q6⟩ := HSO.out.1;obtain ⟨F, T, A, Z⟩ := s;dsimp only at q1 q2 q3 q4 hk;clear q5 q6;have c0 := fun q : BelowP wr => (HSA.out.cells q).1;have c1 := fun q : BelowP wr => (HSA.out.cells q).2.1;have c2 := fun q : BelowP wr => (HSA.out.cells q).2.2.1;dsimp only at c0 c1 c2;by_cases hft : F < T
  ·have d1 : decide (F < T) = true := decide_eq_true hft
   obtain ⟨g, o, a, c, rfl, hnk⟩ := HN.out F (by omega);have HNK := Lib.hid hnk;have hwb := HBZ.out _ _ HSA.out;have cn := fun q : BelowP wr => (hnk q.to (hwb.trans (q.h.mono hwb.size))).1;have hsl := fun W => fromE_run la l.length lc A (by omega) (by omega) W
   have CB : Hid (∀ q : BelowP wr, Calls Tryz.prog 132 #[.slice (fromA la A 3 lc) (l.length - A) (lc - A), .slice a (nodeAt ns F).length c] q.to fun e w' => e = .returned (.bool (beginsA (l.drop A) (nodeAt ns F))) ∧ Below q.to.heap.size q.to w') := Lib.hid fun q => by
    have hq := hwb.trans (q.h.mono hwb.size);have h8 := (fromE_ents rfl (ents_t (HU.out.kept hq)) (k := A) (by omega)).now;exact begins_any (l.drop A) (nodeAt ns F) _ _ q.to h8 (hnk q.to hq).2
   clear hnk;obtain ⟨bg, hbg⟩ : ∃ b, beginsA (l.drop A) (nodeAt ns F) = b := ⟨_, rfl⟩;rw [hbg] at CB;have HBG := Lib.hid hbg;clear hbg
   cases bg with
   | false =>
     have HQ2 : Hid (unlikeA ns l = widerA ns ns.length (bwdA ns l ns.length ⟨F, T, A, Z⟩)) := Lib.hid (by rw [HQ.out, fwd_stop (by rintro ⟨-, h⟩; rw [HBG.out] at h; cases h)])
     go_upto_region 2 with fail
     refine wp_region_quiet_below mixed (by kernel_rfl) ?_
     repeat (go_big_quiet_step (refine calls_below (CB.out _)))
     refine wpQuiet_nil ?_;intro w0q hw';obtain ⟨⟨wq, bq⟩, hw''⟩ := hw';have hw2 : wq = w0q := hw''.symm;clear hw'';subst hw2;have HSQ := Lib.hid (HSA.out.kept bq);have HSOQ := Lib.hid HSO.out.1;clear c0 c1 c2 cn hsl CB HSA bq HNK HBG HQ hwb d1;go_wp2
     go_loopg [] ns.length (fun kx wr => ∃ s : Span, Hid (SpAt X w3 s wr) ∧ Hid (SpanOk ns l s) ∧ s.last - s.first ≤ kx ∧ Hid (unlikeA ns l = widerA ns ns.length (bwdA ns l kx s)))
     case atStart => exact ⟨⟨F, T, A, Z⟩, HSQ, HSOQ, Nat.le_trans (Nat.sub_le _ _) q2, HQ2⟩
     case round =>
      obtain ⟨s, HSA, HSO, hk, HQ⟩ := hrel;clear HSQ HSOQ HQ2 q1 q2 q3 q4;obtain ⟨q1, q2, q3, q4, q5, q6⟩ := HSO.out;obtain ⟨F, T, A, Z⟩ := s;dsimp only at q1 q2 q3 q4 hk;clear q5 q6;have c0 := fun q : BelowP wr => (HSA.out.cells q).1;have c1 := fun q : BelowP wr => (HSA.out.cells q).2.1;have c2 := fun q : BelowP wr => (HSA.out.cells q).2.2.1;have c3 := fun q : BelowP wr => (HSA.out.cells q).2.2.2;dsimp only at c0 c1 c2 c3;by_cases hft : F < T
      ·have d1 : decide (F < T) = true := decide_eq_true hft
       obtain ⟨T1, hT1⟩ : ∃ T1, T - 1 = T1 := ⟨_, rfl⟩
       have ht1 : (T : Int) - 1 = (T1 : Int) := by omega
       obtain ⟨gn, on, a, c, hna, hnk⟩ := HN.out T1 (by omega)
       first | subst hna | (injection hna with hna; injection hna with hg1 hg2 hg3; subst hg1 hg2)
       have HNK := Lib.hid hnk;have hwb := HBZ.out _ _ HSA.out;have cn := fun q : BelowP wr => (hnk q.to (hwb.trans (q.h.mono hwb.size))).1;have hsl := fun W => cutE_run la l.length lc A Z q3 (by omega) W
       have CB : Hid (∀ q : BelowP wr, Calls Tryz.prog 133 #[.slice (fromA la A 3 lc) (Z - A) (lc - A), .slice a (nodeAt ns T1).length c] q.to fun e w' => e = .returned (.bool (endsA ((l.drop A).take (Z - A)) (nodeAt ns T1))) ∧ Below q.to.heap.size q.to w') := Lib.hid fun q => by
        have hq := hwb.trans (q.h.mono hwb.size);have h7 := fromE_ents rfl (ents_t (HU.out.kept hq)) (k := A) (by omega);have h8 := (EntsT.take (k := Z - A) (by rw [List.length_drop]) h7 (by rw [List.length_drop]; omega)).now;exact ends_any _ (nodeAt ns T1) _ _ q.to h8 (hnk q.to hq).2
       clear hnk;obtain ⟨bg, hbg⟩ : ∃ b, endsA ((l.drop A).take (Z - A)) (nodeAt ns T1) = b := ⟨_, rfl⟩;rw [hbg] at CB;have HBG := Lib.hid hbg;have HT1 := Lib.hid hT1;clear hbg
       cases bg with
       | false =>
         have HQ2 : Hid (unlikeA ns l = widerA ns ns.length ⟨F, T, A, Z⟩) := Lib.hid (by rw [HQ.out, bwd_stop (by rintro ⟨-, h⟩; dsimp only at h; rw [hT1, HBG.out] at h; cases h)]);clear hT1
         go_upto_region 5 with fail
         refine wp_region_quiet_below mixed (by kernel_rfl) ?_
         repeat (go_big_quiet_step (refine calls_below (CB.out _)))
         refine wpQuiet_nil ?_;intro w0q hw';obtain ⟨⟨wq, bq⟩, hw''⟩ := hw';have hw2 : wq = w0q := hw''.symm;clear hw'';subst hw2;have HSQ := Lib.hid (HSA.out.kept bq);have HSOQ := HSO;clear c0 c1 c2 c3 cn hsl CB HSA bq HNK HBG HQ hwb d1 HT1 ht1;obtain ⟨q1, q2, q3, q4, q5, q6⟩ := HSOQ.out;dsimp only at q1 q2 q3 q4;clear q5 q6;have e2 := HSQ.out.blk.cell 2;have e3 := HSQ.out.blk.cell 3;simp only [List.getElem?_toArray, List.getElem?_cons_zero, List.getElem?_cons_succ] at e2 e3;obtain ⟨N0, hN0⟩ : ∃ N, Z - A = N := ⟨_, rfl⟩
         have hza : (Z : Int) - (A : Int) = (N0 : Int) := by omega
         have HN0 := Lib.hid hN0;clear hN0;go_wp2
         try simp only [hza]
         clear hza
         go_loopg [6] ns.length (fun kx nv wr => ∃ (s : Span) (N : Nat), Hid (SpAt X w3 s wr) ∧ Hid (SpanOk ns l s) ∧ ns.length - (s.last - s.first) ≤ kx ∧ nv = .int .i64 (N : Int) ∧ s.stop - s.start = N ∧ Hid (unlikeA ns l = widerA ns kx s))
         case atStart => exact ⟨⟨F, T, A, Z⟩, N0, HSQ, HSOQ, Nat.sub_le _ _, rfl, HN0.out, HQ2⟩
         case round =>
          obtain ⟨s, N, HSE, HSO, hk, rfl, hN, HQ⟩ := hrel;clear HSQ HSOQ HQ2 e2 e3 HN0 q1 q2 q3 q4;obtain ⟨q1, q2, q3, q4, q5, q6⟩ := HSO.out;obtain ⟨F, T, A, Z⟩ := s;dsimp only at q1 q2 q3 q4 hk hN;clear q5 q6;have x0 := HSE.out.blk.cell 0;have x1 := HSE.out.blk.cell 1;simp only [List.getElem?_toArray, List.getElem?_cons_zero, List.getElem?_cons_succ] at x0 x1;have HNN := Lib.hid hN;by_cases h1 : 0 < N
          ·have d1 : decide (0 < N) = true := decide_eq_true h1
           by_cases h2 : N < 5
           ·have d2 : decide (N < 5) = true := decide_eq_true h2
            have d2' : decide ((N : Int) < 5) = true := decide_eq_true (by omega);obtain ⟨TF, hTF⟩ : ∃ TF, T - F = TF := ⟨_, rfl⟩
            have htf : (T : Int) - (F : Int) = (TF : Int) := by omega
            by_cases h3 : TF < ns.length
            ·have d3 : decide (TF < ns.length) = true := decide_eq_true h3
             have hcond : 0 < Z - A ∧ Z - A < 5 ∧ T - F < ns.length := ⟨by omega, by omega, by omega⟩;have hwb := HBZ.out _ _ HSE.out;have CW := Lib.hid (wider_any ns l ⟨F, T, A, Z⟩ HSO.out (by dsimp only; omega) hl hn _ wr (nodesIn_kept HV.out hwb));have HSN := Lib.hid (span_wide HSO.out (show T - F < ns.length from hcond.2.2));obtain ⟨kx, hkx⟩ : ∃ kx, gk = kx + 1 := ⟨gk - 1, by omega⟩
             have HQ2 : Hid (unlikeA ns l = widerA ns kx (wideA ns ⟨F, T, A, Z⟩)) := Lib.hid (by
              have h9 := HQ.out;rw [hkx] at h9;rw [h9]
              conv => lhs; unfold widerA
              rw [if_pos hcond])
             have hmeas : ns.length - ((wideA ns ⟨F, T, A, Z⟩).last - (wideA ns ⟨F, T, A, Z⟩).first) ≤ kx := by
              unfold wideA;dsimp only
              split <;> (dsimp only; omega)
             have HKX := Lib.hid hkx;have HMS := Lib.hid hmeas;obtain ⟨s2, hs2⟩ : ∃ s2, wideA ns ⟨F, T, A, Z⟩ = s2 := ⟨_, rfl⟩;rw [hs2] at CW HSN HQ2 HMS;clear hs2 HQ hkx hmeas hcond hTF hwb;obtain ⟨F2, T2, A2, Z2⟩ := s2;obtain ⟨u1, u2, u3, u4, u5, u6⟩ := HSN.out;dsimp only at u1 u2 u3 u4;clear u5 u6
             go_upto_region 11 with fail
             have x2 := HSE.out.blk.cell 2;have x3 := HSE.out.blk.cell 3;simp only [List.getElem?_toArray, List.getElem?_cons_zero, List.getElem?_cons_succ] at x2 x3;go_wp2_with fail
             refine CW.out.mono ?_; rintro e w6 ⟨rfl, b6⟩;have HS6 := Lib.hid (HSE.out.kept b6);have y0 := HS6.out.blk.cell 0;have y1 := HS6.out.blk.cell 1;have y2 := HS6.out.blk.cell 2;have y3 := HS6.out.blk.cell 3;have g0 := HS6.out.blk.frozen 0;have g1 := HS6.out.blk.frozen 1;have g2 := HS6.out.blk.frozen 2;have g3 := HS6.out.blk.frozen 3;simp only [List.getElem?_toArray, List.getElem?_cons_zero, List.getElem?_cons_succ] at y0 y1 y2 y3
             have HS7 : Hid (SpAt X w3 ⟨F2, T2, A2, Z2⟩ ((((w6.setCell ⟨X, 0, none⟩ (.int .i64 (F2 : Int))).setCell ⟨X, 1, none⟩ (.int .i64 (T2 : Int))).setCell ⟨X, 2, none⟩ (.int .i64 (A2 : Int))).setCell ⟨X, 3, none⟩ (.int .i64 (Z2 : Int)))) :=
              Lib.hid ((((HS6.out.set (s' := ⟨F2, T, A, Z⟩) 0 _ rfl).set (s' := ⟨F2, T2, A, Z⟩) 1 _ rfl).set (s' := ⟨F2, T2, A2, Z⟩) 2 _ rfl).set (s' := ⟨F2, T2, A2, Z2⟩) 3 _ rfl)
             clear CW b6 x0 x1 x2 x3 HSE
             go_upto_region 10 with fail
             clear y0 y1 y2 y3 g0 g1 g2 g3 HS6;generalize (((w6.setCell ⟨X, 0, none⟩ (.int .i64 (F2 : Int))).setCell ⟨X, 1, none⟩ (.int .i64 (T2 : Int))).setCell ⟨X, 2, none⟩ (.int .i64 (A2 : Int))).setCell ⟨X, 3, none⟩ (.int .i64 (Z2 : Int)) = w7 at *;have y2 := HS7.out.blk.cell 2;have y3 := HS7.out.blk.cell 3;simp only [List.getElem?_toArray, List.getElem?_cons_zero, List.getElem?_cons_succ] at y2 y3;obtain ⟨N2, hN2⟩ : ∃ N, Z2 - A2 = N := ⟨_, rfl⟩
             have hza : (Z2 : Int) - (A2 : Int) = (N2 : Int) := by omega
             have HN2 := Lib.hid hN2;clear hN2;go_wp2
             try simp only [hza]
             go_roundg kx
             case measure => have := HKX.out; omega
             case rel => exact ⟨⟨F2, T2, A2, Z2⟩, N2, HS7, HSN, HMS.out, rfl, HN2.out, HQ2⟩
            ·have d3 : decide (TF < ns.length) = false := decide_eq_false h3
             have HEQ : Hid (unlikeA ns l = ⟨F, T, A, Z⟩) := Lib.hid (by rw [HQ.out, wide_stop (by rintro ⟨-, -, h⟩; dsimp only at h; omega)]);clear HQ hTF;have x0 := HSE.out.blk.cell 0;have x1 := HSE.out.blk.cell 1;have x2 := HSE.out.blk.cell 2;have x3 := HSE.out.blk.cell 3;have hrx := HRX.out;have hre := (HSE.out.z.block _ HR3.out.lt (by omega)).trans HR3.out;have HRE : Hid (Blk w.heap.size #[.int .i64 0, .int .i64 0, .int .i64 0, .int .i64 0] 200 _) := Lib.hid hre;have r0 := HRE.out.cell 0;have r1 := HRE.out.cell 1;have r2 := HRE.out.cell 2;have r3 := HRE.out.cell 3;have g0 := HRE.out.frozen 0;have g1 := HRE.out.frozen 1;have g2 := HRE.out.frozen 2;have g3 := HRE.out.frozen 3;simp only [List.getElem?_toArray, List.getElem?_cons_zero, List.getElem?_cons_succ] at x0 x1 x2 x3 r0 r1 r2 r3;have HBE := Lib.hid (HBZ.out _ _ HSE.out);have HD := Lib.hid fun (a b c d : Value) => (((HBE.out.setCell (p := ⟨w.heap.size, 0, none⟩) (Nat.le_refl _) a).setCell (p := ⟨w.heap.size, 1, none⟩) (Nat.le_refl _) b).setCell (p := ⟨w.heap.size, 2, none⟩) (Nat.le_refl _) c).setCell (p := ⟨w.heap.size, 3, none⟩) (Nat.le_refl _) d;clear hre HRE;go_wp2
             (try simp only [Exit.inBlock, Exit.then])
             refine bodyPost_ret (v := spanV ⟨F, T, A, Z⟩) ?_ rfl ⟨by rw [HEQ.out], ?_⟩
             ·rw [results_one_cell rfl]
              go_simp
             ·exact HD.out _ _ _ _
           ·have d2 : decide (N < 5) = false := decide_eq_false h2
            have d2' : decide ((N : Int) < 5) = false := decide_eq_false (by omega);have HEQ : Hid (unlikeA ns l = ⟨F, T, A, Z⟩) := Lib.hid (by rw [HQ.out, wide_stop (by rintro ⟨-, h, -⟩; dsimp only at h; omega)]);clear HQ;have x0 := HSE.out.blk.cell 0;have x1 := HSE.out.blk.cell 1;have x2 := HSE.out.blk.cell 2;have x3 := HSE.out.blk.cell 3;have hrx := HRX.out;have hre := (HSE.out.z.block _ HR3.out.lt (by omega)).trans HR3.out;have HRE : Hid (Blk w.heap.size #[.int .i64 0, .int .i64 0, .int .i64 0, .int .i64 0] 200 _) := Lib.hid hre;have r0 := HRE.out.cell 0;have r1 := HRE.out.cell 1;have r2 := HRE.out.cell 2;have r3 := HRE.out.cell 3;have g0 := HRE.out.frozen 0;have g1 := HRE.out.frozen 1;have g2 := HRE.out.frozen 2;have g3 := HRE.out.frozen 3;simp only [List.getElem?_toArray, List.getElem?_cons_zero, List.getElem?_cons_succ] at x0 x1 x2 x3 r0 r1 r2 r3;have HBE := Lib.hid (HBZ.out _ _ HSE.out);have HD := Lib.hid fun (a b c d : Value) => (((HBE.out.setCell (p := ⟨w.heap.size, 0, none⟩) (Nat.le_refl _) a).setCell (p := ⟨w.heap.size, 1, none⟩) (Nat.le_refl _) b).setCell (p := ⟨w.heap.size, 2, none⟩) (Nat.le_refl _) c).setCell (p := ⟨w.heap.size, 3, none⟩) (Nat.le_refl _) d;clear hre HRE;go_wp2
            (try simp only [Exit.inBlock, Exit.then])
            refine bodyPost_ret (v := spanV ⟨F, T, A, Z⟩) ?_ rfl ⟨by rw [HEQ.out], ?_⟩
            ·rw [results_one_cell rfl]
             go_simp
            ·exact HD.out _ _ _ _
          ·have d1 : decide (0 < N) = false := decide_eq_false h1
           have HEQ : Hid (unlikeA ns l = ⟨F, T, A, Z⟩) := Lib.hid (by rw [HQ.out, wide_stop (by rintro ⟨h, -, -⟩; dsimp only at h; omega)]);clear HQ;have x0 := HSE.out.blk.cell 0;have x1 := HSE.out.blk.cell 1;have x2 := HSE.out.blk.cell 2;have x3 := HSE.out.blk.cell 3;have hrx := HRX.out;have hre := (HSE.out.z.block _ HR3.out.lt (by omega)).trans HR3.out;have HRE : Hid (Blk w.heap.size #[.int .i64 0, .int .i64 0, .int .i64 0, .int .i64 0] 200 _) := Lib.hid hre;have r0 := HRE.out.cell 0;have r1 := HRE.out.cell 1;have r2 := HRE.out.cell 2;have r3 := HRE.out.cell 3;have g0 := HRE.out.frozen 0;have g1 := HRE.out.frozen 1;have g2 := HRE.out.frozen 2;have g3 := HRE.out.frozen 3;simp only [List.getElem?_toArray, List.getElem?_cons_zero, List.getElem?_cons_succ] at x0 x1 x2 x3 r0 r1 r2 r3;have HBE := Lib.hid (HBZ.out _ _ HSE.out);have HD := Lib.hid fun (a b c d : Value) => (((HBE.out.setCell (p := ⟨w.heap.size, 0, none⟩) (Nat.le_refl _) a).setCell (p := ⟨w.heap.size, 1, none⟩) (Nat.le_refl _) b).setCell (p := ⟨w.heap.size, 2, none⟩) (Nat.le_refl _) c).setCell (p := ⟨w.heap.size, 3, none⟩) (Nat.le_refl _) d;clear hre HRE;go_wp2
           (try simp only [Exit.inBlock, Exit.then])
           refine bodyPost_ret (v := spanV ⟨F, T, A, Z⟩) ?_ rfl ⟨by rw [HEQ.out], ?_⟩
           ·rw [results_one_cell rfl]
            go_simp
           ·exact HD.out _ _ _ _
       | true =>
         have hcond : F < T ∧ endsA ((l.drop A).take (Z - A)) (nodeAt ns (T - 1)) = true := ⟨hft, by rw [hT1]; exact HBG.out⟩;have HSN := Lib.hid (span_bwd1 HSO.out hcond);obtain ⟨kx, hkx⟩ : ∃ kx, gk = kx + 1 := ⟨gk - 1, by omega⟩
         have HQ2 : Hid (unlikeA ns l = widerA ns ns.length (bwdA ns l kx ⟨F, T - 1, A, Z - (nodeAt ns (T - 1)).length⟩)) := Lib.hid (by
          have h9 := HQ.out;rw [hkx] at h9;rw [h9]
          conv => lhs; unfold bwdA
          rw [if_pos hcond])
         have HKX := Lib.hid hkx;rw [hT1] at HSN HQ2
         have hnz : (nodeAt ns T1).length ≤ Z := by
          have h1 := hcond.2;rw [hT1] at h1;unfold endsA at h1;rw [Bool.and_eq_true, decide_eq_true_iff, List.length_take, List.length_drop] at h1;omega
         obtain ⟨nl, hnl⟩ : ∃ nl, (nodeAt ns T1).length = nl := ⟨_, rfl⟩;rw [hnl] at HQ2 HSN cn CB hnz;obtain ⟨Z1, hZ1⟩ : ∃ Z1, Z - nl = Z1 := ⟨_, rfl⟩
         have hz1 : (Z : Int) - (nl : Int) = (Z1 : Int) := by omega
         rw [hZ1] at HQ2 HSN;obtain ⟨u1, u2, u3, u4, u5, u6⟩ := HSN.out;dsimp only at u1 u2 u3 u4;clear u5 u6 hZ1 HQ hkx hcond hT1
         go_upto_region 5 with fail
         refine wp_region_quiet_below mixed (by kernel_rfl) ?_
         repeat (go_big_quiet_step (refine calls_below (CB.out _)))
         refine wpQuiet_nil ?_;intro w0q hw';obtain ⟨⟨wq, bq⟩, hw''⟩ := hw';have hw2 : wq = w0q := hw''.symm;clear hw'';subst hw2;have HSQ := Lib.hid (HSA.out.kept bq);clear c0 c1 c2 c3 cn hsl CB HSA bq hwb;have e1 := HSQ.out.blk.cell 1;simp only [List.getElem?_toArray, List.getElem?_cons_zero, List.getElem?_cons_succ] at e1;have g1 := HSQ.out.blk.frozen 1;have HS6 : Hid (SpAt X w3 ⟨F, T1, A, Z⟩ (wq.setCell ⟨X, 1, none⟩ (.int .i64 (T1 : Int)))) := Lib.hid (HSQ.out.set 1 _ rfl)
         go_upto_region 7 with fail
         try simp only [ht1]
         clear e1 g1 HSQ;generalize wq.setCell ⟨X, 1, none⟩ (.int .i64 (T1 : Int)) = w6 at *;have hwb := HBZ.out _ _ HS6.out;have c1 := fun q : BelowP w6 => (HS6.out.cells q).2.1;have c3 := fun q : BelowP w6 => (HS6.out.cells q).2.2.2;dsimp only at c1 c3;have cn := fun q : BelowP w6 => (HNK.out q.to (hwb.trans (q.h.mono hwb.size))).1;rw [hnl] at cn;clear hnl;refine wp_region_tail_below 10 mixed (by kernel_rfl) ?_;simp only [List.take_succ_cons, List.take_zero, List.drop_succ_cons, List.drop_zero]
         repeat (go_big_quiet_step (fail))
         refine wpQuiet_nil ?_;intro w0q hw';obtain ⟨⟨wq, bq⟩, hw''⟩ := hw';have hw2 : wq = w0q := hw''.symm;clear hw'';subst hw2;have HS7 := Lib.hid (HS6.out.kept bq);have e3 := HS7.out.blk.cell 3;simp only [List.getElem?_toArray, List.getElem?_cons_zero, List.getElem?_cons_succ] at e3;have g3 := HS7.out.blk.frozen 3;have HS8 : Hid (SpAt X w3 ⟨F, T1, A, Z1⟩ (wq.setCell ⟨X, 3, none⟩ (.int .i64 (Z1 : Int)))) := Lib.hid (HS7.out.set 3 _ rfl);clear c1 c3 cn HS6 bq hwb;go_wp2
         try simp only [hz1]
         go_roundg kx
         case measure => have := HKX.out; omega
         case rel => exact ⟨⟨F, T1, A, Z1⟩, HS8, HSN, by have := HKX.out; have := HT1.out; dsimp only; omega, HQ2⟩
      ·have HQ2 : Hid (unlikeA ns l = widerA ns ns.length ⟨F, T, A, Z⟩) := Lib.hid (by rw [HQ.out, bwd_stop (fun h => hft h.1)])
       have d1 : decide (F < T) = false := decide_eq_false hft
       go_upto_region 5 with fail
       refine wp_region_quiet_below mixed (by kernel_rfl) ?_
       repeat (go_big_quiet_step (fail))
       refine wpQuiet_nil ?_;intro w0q hw';obtain ⟨⟨wq, bq⟩, hw''⟩ := hw';have hw2 : wq = w0q := hw''.symm;clear hw'';subst hw2;have HSQ := Lib.hid (HSA.out.kept bq);have HSOQ := HSO;clear c0 c1 c2 c3 HSA bq HQ d1;obtain ⟨q1, q2, q3, q4, q5, q6⟩ := HSOQ.out;dsimp only at q1 q2 q3 q4;clear q5 q6;have e2 := HSQ.out.blk.cell 2;have e3 := HSQ.out.blk.cell 3;simp only [List.getElem?_toArray, List.getElem?_cons_zero, List.getElem?_cons_succ] at e2 e3;obtain ⟨N0, hN0⟩ : ∃ N, Z - A = N := ⟨_, rfl⟩
       have hza : (Z : Int) - (A : Int) = (N0 : Int) := by omega
       have HN0 := Lib.hid hN0;clear hN0;go_wp2
       try simp only [hza]
       clear hza
       go_loopg [6] ns.length (fun kx nv wr => ∃ (s : Span) (N : Nat), Hid (SpAt X w3 s wr) ∧ Hid (SpanOk ns l s) ∧ ns.length - (s.last - s.first) ≤ kx ∧ nv = .int .i64 (N : Int) ∧ s.stop - s.start = N ∧ Hid (unlikeA ns l = widerA ns kx s))
       case atStart => exact ⟨⟨F, T, A, Z⟩, N0, HSQ, HSOQ, Nat.sub_le _ _, rfl, HN0.out, HQ2⟩
       case round =>
        obtain ⟨s, N, HSE, HSO, hk, rfl, hN, HQ⟩ := hrel;clear HSQ HSOQ HQ2 e2 e3 HN0 q1 q2 q3 q4;obtain ⟨q1, q2, q3, q4, q5, q6⟩ := HSO.out;obtain ⟨F, T, A, Z⟩ := s;dsimp only at q1 q2 q3 q4 hk hN;clear q5 q6;have x0 := HSE.out.blk.cell 0;have x1 := HSE.out.blk.cell 1;simp only [List.getElem?_toArray, List.getElem?_cons_zero, List.getElem?_cons_succ] at x0 x1;have HNN := Lib.hid hN;by_cases h1 : 0 < N
        ·have d1 : decide (0 < N) = true := decide_eq_true h1
         by_cases h2 : N < 5
         ·have d2 : decide (N < 5) = true := decide_eq_true h2
          have d2' : decide ((N : Int) < 5) = true := decide_eq_true (by omega);obtain ⟨TF, hTF⟩ : ∃ TF, T - F = TF := ⟨_, rfl⟩
          have htf : (T : Int) - (F : Int) = (TF : Int) := by omega
          by_cases h3 : TF < ns.length
          ·have d3 : decide (TF < ns.length) = true := decide_eq_true h3
           have hcond : 0 < Z - A ∧ Z - A < 5 ∧ T - F < ns.length := ⟨by omega, by omega, by omega⟩;have hwb := HBZ.out _ _ HSE.out;have CW := Lib.hid (wider_any ns l ⟨F, T, A, Z⟩ HSO.out (by dsimp only; omega) hl hn _ wr (nodesIn_kept HV.out hwb));have HSN := Lib.hid (span_wide HSO.out (show T - F < ns.length from hcond.2.2));obtain ⟨kx, hkx⟩ : ∃ kx, gk = kx + 1 := ⟨gk - 1, by omega⟩
           have HQ2 : Hid (unlikeA ns l = widerA ns kx (wideA ns ⟨F, T, A, Z⟩)) := Lib.hid (by
            have h9 := HQ.out;rw [hkx] at h9;rw [h9]
            conv => lhs; unfold widerA
            rw [if_pos hcond])
           have hmeas : ns.length - ((wideA ns ⟨F, T, A, Z⟩).last - (wideA ns ⟨F, T, A, Z⟩).first) ≤ kx := by
            unfold wideA;dsimp only
            split <;> (dsimp only; omega)
           have HKX := Lib.hid hkx;have HMS := Lib.hid hmeas;obtain ⟨s2, hs2⟩ : ∃ s2, wideA ns ⟨F, T, A, Z⟩ = s2 := ⟨_, rfl⟩;rw [hs2] at CW HSN HQ2 HMS;clear hs2 HQ hkx hmeas hcond hTF hwb;obtain ⟨F2, T2, A2, Z2⟩ := s2;obtain ⟨u1, u2, u3, u4, u5, u6⟩ := HSN.out;dsimp only at u1 u2 u3 u4;clear u5 u6
           go_upto_region 11 with fail
           have x2 := HSE.out.blk.cell 2;have x3 := HSE.out.blk.cell 3;simp only [List.getElem?_toArray, List.getElem?_cons_zero, List.getElem?_cons_succ] at x2 x3;go_wp2_with fail
           refine CW.out.mono ?_; rintro e w6 ⟨rfl, b6⟩;have HS6 := Lib.hid (HSE.out.kept b6);have y0 := HS6.out.blk.cell 0;have y1 := HS6.out.blk.cell 1;have y2 := HS6.out.blk.cell 2;have y3 := HS6.out.blk.cell 3;have g0 := HS6.out.blk.frozen 0;have g1 := HS6.out.blk.frozen 1;have g2 := HS6.out.blk.frozen 2;have g3 := HS6.out.blk.frozen 3;simp only [List.getElem?_toArray, List.getElem?_cons_zero, List.getElem?_cons_succ] at y0 y1 y2 y3
           have HS7 : Hid (SpAt X w3 ⟨F2, T2, A2, Z2⟩ ((((w6.setCell ⟨X, 0, none⟩ (.int .i64 (F2 : Int))).setCell ⟨X, 1, none⟩ (.int .i64 (T2 : Int))).setCell ⟨X, 2, none⟩ (.int .i64 (A2 : Int))).setCell ⟨X, 3, none⟩ (.int .i64 (Z2 : Int)))) :=
            Lib.hid ((((HS6.out.set (s' := ⟨F2, T, A, Z⟩) 0 _ rfl).set (s' := ⟨F2, T2, A, Z⟩) 1 _ rfl).set (s' := ⟨F2, T2, A2, Z⟩) 2 _ rfl).set (s' := ⟨F2, T2, A2, Z2⟩) 3 _ rfl)
           clear CW b6 x0 x1 x2 x3 HSE
           go_upto_region 10 with fail
           clear y0 y1 y2 y3 g0 g1 g2 g3 HS6;generalize (((w6.setCell ⟨X, 0, none⟩ (.int .i64 (F2 : Int))).setCell ⟨X, 1, none⟩ (.int .i64 (T2 : Int))).setCell ⟨X, 2, none⟩ (.int .i64 (A2 : Int))).setCell ⟨X, 3, none⟩ (.int .i64 (Z2 : Int)) = w7 at *;have y2 := HS7.out.blk.cell 2;have y3 := HS7.out.blk.cell 3;simp only [List.getElem?_toArray, List.getElem?_cons_zero, List.getElem?_cons_succ] at y2 y3;obtain ⟨N2, hN2⟩ : ∃ N, Z2 - A2 = N := ⟨_, rfl⟩
           have hza : (Z2 : Int) - (A2 : Int) = (N2 : Int) := by omega
           have HN2 := Lib.hid hN2;clear hN2;go_wp2
           try simp only [hza]
           go_roundg kx
           case measure => have := HKX.out; omega
           case rel => exact ⟨⟨F2, T2, A2, Z2⟩, N2, HS7, HSN, HMS.out, rfl, HN2.out, HQ2⟩
          ·have d3 : decide (TF < ns.length) = false := decide_eq_false h3
           have HEQ : Hid (unlikeA ns l = ⟨F, T, A, Z⟩) := Lib.hid (by rw [HQ.out, wide_stop (by rintro ⟨-, -, h⟩; dsimp only at h; omega)]);clear HQ hTF;have x0 := HSE.out.blk.cell 0;have x1 := HSE.out.blk.cell 1;have x2 := HSE.out.blk.cell 2;have x3 := HSE.out.blk.cell 3;have hrx := HRX.out;have hre := (HSE.out.z.block _ HR3.out.lt (by omega)).trans HR3.out;have HRE : Hid (Blk w.heap.size #[.int .i64 0, .int .i64 0, .int .i64 0, .int .i64 0] 200 _) := Lib.hid hre;have r0 := HRE.out.cell 0;have r1 := HRE.out.cell 1;have r2 := HRE.out.cell 2;have r3 := HRE.out.cell 3;have g0 := HRE.out.frozen 0;have g1 := HRE.out.frozen 1;have g2 := HRE.out.frozen 2;have g3 := HRE.out.frozen 3;simp only [List.getElem?_toArray, List.getElem?_cons_zero, List.getElem?_cons_succ] at x0 x1 x2 x3 r0 r1 r2 r3;have HBE := Lib.hid (HBZ.out _ _ HSE.out);have HD := Lib.hid fun (a b c d : Value) => (((HBE.out.setCell (p := ⟨w.heap.size, 0, none⟩) (Nat.le_refl _) a).setCell (p := ⟨w.heap.size, 1, none⟩) (Nat.le_refl _) b).setCell (p := ⟨w.heap.size, 2, none⟩) (Nat.le_refl _) c).setCell (p := ⟨w.heap.size, 3, none⟩) (Nat.le_refl _) d;clear hre HRE;go_wp2
           (try simp only [Exit.inBlock, Exit.then])
           refine bodyPost_ret (v := spanV ⟨F, T, A, Z⟩) ?_ rfl ⟨by rw [HEQ.out], ?_⟩
           ·rw [results_one_cell rfl]
            go_simp
           ·exact HD.out _ _ _ _
         ·have d2 : decide (N < 5) = false := decide_eq_false h2
          have d2' : decide ((N : Int) < 5) = false := decide_eq_false (by omega);have HEQ : Hid (unlikeA ns l = ⟨F, T, A, Z⟩) := Lib.hid (by rw [HQ.out, wide_stop (by rintro ⟨-, h, -⟩; dsimp only at h; omega)]);clear HQ;have x0 := HSE.out.blk.cell 0;have x1 := HSE.out.blk.cell 1;have x2 := HSE.out.blk.cell 2;have x3 := HSE.out.blk.cell 3;have hrx := HRX.out;have hre := (HSE.out.z.block _ HR3.out.lt (by omega)).trans HR3.out;have HRE : Hid (Blk w.heap.size #[.int .i64 0, .int .i64 0, .int .i64 0, .int .i64 0] 200 _) := Lib.hid hre;have r0 := HRE.out.cell 0;have r1 := HRE.out.cell 1;have r2 := HRE.out.cell 2;have r3 := HRE.out.cell 3;have g0 := HRE.out.frozen 0;have g1 := HRE.out.frozen 1;have g2 := HRE.out.frozen 2;have g3 := HRE.out.frozen 3;simp only [List.getElem?_toArray, List.getElem?_cons_zero, List.getElem?_cons_succ] at x0 x1 x2 x3 r0 r1 r2 r3;have HBE := Lib.hid (HBZ.out _ _ HSE.out);have HD := Lib.hid fun (a b c d : Value) => (((HBE.out.setCell (p := ⟨w.heap.size, 0, none⟩) (Nat.le_refl _) a).setCell (p := ⟨w.heap.size, 1, none⟩) (Nat.le_refl _) b).setCell (p := ⟨w.heap.size, 2, none⟩) (Nat.le_refl _) c).setCell (p := ⟨w.heap.size, 3, none⟩) (Nat.le_refl _) d;clear hre HRE;go_wp2
          (try simp only [Exit.inBlock, Exit.then])
          refine bodyPost_ret (v := spanV ⟨F, T, A, Z⟩) ?_ rfl ⟨by rw [HEQ.out], ?_⟩
          ·rw [results_one_cell rfl]
           go_simp
          ·exact HD.out _ _ _ _
        ·have d1 : decide (0 < N) = false := decide_eq_false h1
         have HEQ : Hid (unlikeA ns l = ⟨F, T, A, Z⟩) := Lib.hid (by rw [HQ.out, wide_stop (by rintro ⟨h, -, -⟩; dsimp only at h; omega)]);clear HQ;have x0 := HSE.out.blk.cell 0;have x1 := HSE.out.blk.cell 1;have x2 := HSE.out.blk.cell 2;have x3 := HSE.out.blk.cell 3;have hrx := HRX.out;have hre := (HSE.out.z.block _ HR3.out.lt (by omega)).trans HR3.out;have HRE : Hid (Blk w.heap.size #[.int .i64 0, .int .i64 0, .int .i64 0, .int .i64 0] 200 _) := Lib.hid hre;have r0 := HRE.out.cell 0;have r1 := HRE.out.cell 1;have r2 := HRE.out.cell 2;have r3 := HRE.out.cell 3;have g0 := HRE.out.frozen 0;have g1 := HRE.out.frozen 1;have g2 := HRE.out.frozen 2;have g3 := HRE.out.frozen 3;simp only [List.getElem?_toArray, List.getElem?_cons_zero, List.getElem?_cons_succ] at x0 x1 x2 x3 r0 r1 r2 r3;have HBE := Lib.hid (HBZ.out _ _ HSE.out);have HD := Lib.hid fun (a b c d : Value) => (((HBE.out.setCell (p := ⟨w.heap.size, 0, none⟩) (Nat.le_refl _) a).setCell (p := ⟨w.heap.size, 1, none⟩) (Nat.le_refl _) b).setCell (p := ⟨w.heap.size, 2, none⟩) (Nat.le_refl _) c).setCell (p := ⟨w.heap.size, 3, none⟩) (Nat.le_refl _) d;clear hre HRE;go_wp2
         (try simp only [Exit.inBlock, Exit.then])
         refine bodyPost_ret (v := spanV ⟨F, T, A, Z⟩) ?_ rfl ⟨by rw [HEQ.out], ?_⟩
         ·rw [results_one_cell rfl]
          go_simp
         ·exact HD.out _ _ _ _
   | true =>
     have hcond : F < T ∧ beginsA (l.drop A) (nodeAt ns F) = true := ⟨hft, HBG.out⟩;have HSN := Lib.hid (span_fwd1 HSO.out.1 HSO.out.2 hcond);obtain ⟨u1, u2, u3, u4, u5, u6⟩ := HSN.out;dsimp only at u1 u2 u3 u4;clear u5 u6;have HST2 := Lib.hid HSO.out.2;obtain ⟨kx, hkx⟩ : ∃ kx, gk = kx + 1 := ⟨gk - 1, by omega⟩
     have HQ2 : Hid (unlikeA ns l = widerA ns ns.length (bwdA ns l ns.length (fwdA ns l kx ⟨F + 1, T, A + (nodeAt ns F).length, Z⟩))) := Lib.hid (by
      have h9 := HQ.out;rw [hkx] at h9;rw [h9]
      conv => lhs; unfold fwdA
      rw [if_pos hcond])
     have HKX := Lib.hid hkx;obtain ⟨nl, hnl⟩ : ∃ nl, (nodeAt ns F).length = nl := ⟨_, rfl⟩;rw [hnl] at HQ2 HSN cn CB u3;obtain ⟨A1, hA1⟩ : ∃ A1, A + nl = A1 := ⟨_, rfl⟩;obtain ⟨F1, hF1⟩ : ∃ F1, F + 1 = F1 := ⟨_, rfl⟩
     have ha1 : (A : Int) + (nl : Int) = (A1 : Int) := by omega
     have hf1 : (F : Int) + 1 = (F1 : Int) := by omega
     rw [hA1, hF1] at HQ2 HSN;rw [hA1] at u3;rw [hF1] at u1;have HF1 := Lib.hid hF1;clear hA1 hF1 HQ hkx hcond
     go_upto_region 2 with fail
     refine wp_region_quiet_below mixed (by kernel_rfl) ?_
     repeat (go_big_quiet_step (refine calls_below (CB.out _)))
     refine wpQuiet_nil ?_;intro w0q hw';obtain ⟨⟨wq, bq⟩, hw''⟩ := hw';have hw2 : wq = w0q := hw''.symm;clear hw'';subst hw2;have HSQ := Lib.hid (HSA.out.kept bq);clear c0 c1 c2 cn hsl CB HSA bq hwb;have hwb := HBZ.out _ _ HSQ.out;have c0 := fun q : BelowP wq => (HSQ.out.cells q).1;have c2 := fun q : BelowP wq => (HSQ.out.cells q).2.2.1;dsimp only at c0 c2;have cn := fun q : BelowP wq => (HNK.out q.to (hwb.trans (q.h.mono hwb.size))).1;rw [hnl] at cn;clear hnl
     go_upto_region 3 with fail
     refine wp_region_tail_below 10 mixed (by kernel_rfl) ?_;simp only [List.take_succ_cons, List.take_zero, List.drop_succ_cons, List.drop_zero]
     repeat (go_big_quiet_step (fail))
     refine wpQuiet_nil ?_;intro w0q hw';obtain ⟨⟨wq, bq⟩, hw''⟩ := hw';have hw2 : wq = w0q := hw''.symm;clear hw'';subst hw2;have HS5 := Lib.hid (HSQ.out.kept bq);have e2 := HS5.out.blk.cell 2;simp only [List.getElem?_toArray, List.getElem?_cons_zero, List.getElem?_cons_succ] at e2;have g2 := HS5.out.blk.frozen 2;clear c0 c2 cn HSQ bq hwb;have HS6 : Hid (SpAt X w3 ⟨F, T, A1, Z⟩ (wq.setCell ⟨X, 2, none⟩ (.int .i64 (A1 : Int)))) := Lib.hid (HS5.out.set 2 _ rfl)
     go_upto_region 4 with fail
     try simp only [ha1]
     clear e2 g2 HS5;generalize wq.setCell ⟨X, 2, none⟩ (.int .i64 (A1 : Int)) = w6 at *;have e0 := HS6.out.blk.cell 0;simp only [List.getElem?_toArray, List.getElem?_cons_zero, List.getElem?_cons_succ] at e0;have g0 := HS6.out.blk.frozen 0;have HS7 : Hid (SpAt X w3 ⟨F1, T, A1, Z⟩ (w6.setCell ⟨X, 0, none⟩ (.int .i64 (F1 : Int)))) := Lib.hid (HS6.out.set 0 _ rfl);go_wp2
     try simp only [hf1]
     go_roundg kx
     case measure => have := HKX.out; omega
     case rel => exact ⟨⟨F1, T, A1, Z⟩, HS7, Lib.hid ⟨HSN.out, HST2.out⟩, by have := HKX.out; have := HF1.out; dsimp only; omega, HQ2⟩
  ·have HQ2 : Hid (unlikeA ns l = widerA ns ns.length (bwdA ns l ns.length ⟨F, T, A, Z⟩)) := Lib.hid (by rw [HQ.out, fwd_stop (fun h => hft h.1)])
   have d1 : decide (F < T) = false := decide_eq_false hft
   go_upto_region 2 with fail
   refine wp_region_quiet_below mixed (by kernel_rfl) ?_
   repeat (go_big_quiet_step (fail))
   refine wpQuiet_nil ?_;intro w0q hw';obtain ⟨⟨wq, bq⟩, hw''⟩ := hw';have hw2 : wq = w0q := hw''.symm;clear hw'';subst hw2;have HSQ := Lib.hid (HSA.out.kept bq);have HSOQ := Lib.hid HSO.out.1;clear c0 c1 c2 HSA bq HQ d1;go_wp2
   go_loopg [] ns.length (fun kx wr => ∃ s : Span, Hid (SpAt X w3 s wr) ∧ Hid (SpanOk ns l s) ∧ s.last - s.first ≤ kx ∧ Hid (unlikeA ns l = widerA ns ns.length (bwdA ns l kx s)))
   case atStart => exact ⟨⟨F, T, A, Z⟩, HSQ, HSOQ, Nat.le_trans (Nat.sub_le _ _) q2, HQ2⟩
   case round =>
    obtain ⟨s, HSA, HSO, hk, HQ⟩ := hrel;clear HSQ HSOQ HQ2 q1 q2 q3 q4;obtain ⟨q1, q2, q3, q4, q5, q6⟩ := HSO.out;obtain ⟨F, T, A, Z⟩ := s;dsimp only at q1 q2 q3 q4 hk;clear q5 q6;have c0 := fun q : BelowP wr => (HSA.out.cells q).1;have c1 := fun q : BelowP wr => (HSA.out.cells q).2.1;have c2 := fun q : BelowP wr => (HSA.out.cells q).2.2.1;have c3 := fun q : BelowP wr => (HSA.out.cells q).2.2.2;dsimp only at c0 c1 c2 c3;by_cases hft : F < T
    ·have d1 : decide (F < T) = true := decide_eq_true hft
     obtain ⟨T1, hT1⟩ : ∃ T1, T - 1 = T1 := ⟨_, rfl⟩
     have ht1 : (T : Int) - 1 = (T1 : Int) := by omega
     obtain ⟨gn, on, a, c, hna, hnk⟩ := HN.out T1 (by omega)
     first | subst hna | (injection hna with hna; injection hna with hg1 hg2 hg3; subst hg1 hg2)
     have HNK := Lib.hid hnk;have hwb := HBZ.out _ _ HSA.out;have cn := fun q : BelowP wr => (hnk q.to (hwb.trans (q.h.mono hwb.size))).1;have hsl := fun W => cutE_run la l.length lc A Z q3 (by omega) W
     have CB : Hid (∀ q : BelowP wr, Calls Tryz.prog 133 #[.slice (fromA la A 3 lc) (Z - A) (lc - A), .slice a (nodeAt ns T1).length c] q.to fun e w' => e = .returned (.bool (endsA ((l.drop A).take (Z - A)) (nodeAt ns T1))) ∧ Below q.to.heap.size q.to w') := Lib.hid fun q => by
      have hq := hwb.trans (q.h.mono hwb.size);have h7 := fromE_ents rfl (ents_t (HU.out.kept hq)) (k := A) (by omega);have h8 := (EntsT.take (k := Z - A) (by rw [List.length_drop]) h7 (by rw [List.length_drop]; omega)).now;exact ends_any _ (nodeAt ns T1) _ _ q.to h8 (hnk q.to hq).2
     clear hnk;obtain ⟨bg, hbg⟩ : ∃ b, endsA ((l.drop A).take (Z - A)) (nodeAt ns T1) = b := ⟨_, rfl⟩;rw [hbg] at CB;have HBG := Lib.hid hbg;have HT1 := Lib.hid hT1;clear hbg
     cases bg with
     | false =>
       have HQ2 : Hid (unlikeA ns l = widerA ns ns.length ⟨F, T, A, Z⟩) := Lib.hid (by rw [HQ.out, bwd_stop (by rintro ⟨-, h⟩; dsimp only at h; rw [hT1, HBG.out] at h; cases h)]);clear hT1
       go_upto_region 5 with fail
       refine wp_region_quiet_below mixed (by kernel_rfl) ?_
       repeat (go_big_quiet_step (refine calls_below (CB.out _)))
       refine wpQuiet_nil ?_;intro w0q hw';obtain ⟨⟨wq, bq⟩, hw''⟩ := hw';have hw2 : wq = w0q := hw''.symm;clear hw'';subst hw2;have HSQ := Lib.hid (HSA.out.kept bq);have HSOQ := HSO;clear c0 c1 c2 c3 cn hsl CB HSA bq HNK HBG HQ hwb d1 HT1 ht1;obtain ⟨q1, q2, q3, q4, q5, q6⟩ := HSOQ.out;dsimp only at q1 q2 q3 q4;clear q5 q6;have e2 := HSQ.out.blk.cell 2;have e3 := HSQ.out.blk.cell 3;simp only [List.getElem?_toArray, List.getElem?_cons_zero, List.getElem?_cons_succ] at e2 e3;obtain ⟨N0, hN0⟩ : ∃ N, Z - A = N := ⟨_, rfl⟩
       have hza : (Z : Int) - (A : Int) = (N0 : Int) := by omega
       have HN0 := Lib.hid hN0;clear hN0;go_wp2
       try simp only [hza]
       clear hza
       go_loopg [6] ns.length (fun kx nv wr => ∃ (s : Span) (N : Nat), Hid (SpAt X w3 s wr) ∧ Hid (SpanOk ns l s) ∧ ns.length - (s.last - s.first) ≤ kx ∧ nv = .int .i64 (N : Int) ∧ s.stop - s.start = N ∧ Hid (unlikeA ns l = widerA ns kx s))
       case atStart => exact ⟨⟨F, T, A, Z⟩, N0, HSQ, HSOQ, Nat.sub_le _ _, rfl, HN0.out, HQ2⟩
       case round =>
        obtain ⟨s, N, HSE, HSO, hk, rfl, hN, HQ⟩ := hrel;clear HSQ HSOQ HQ2 e2 e3 HN0 q1 q2 q3 q4;obtain ⟨q1, q2, q3, q4, q5, q6⟩ := HSO.out;obtain ⟨F, T, A, Z⟩ := s;dsimp only at q1 q2 q3 q4 hk hN;clear q5 q6;have x0 := HSE.out.blk.cell 0;have x1 := HSE.out.blk.cell 1;simp only [List.getElem?_toArray, List.getElem?_cons_zero, List.getElem?_cons_succ] at x0 x1;have HNN := Lib.hid hN;by_cases h1 : 0 < N
        ·have d1 : decide (0 < N) = true := decide_eq_true h1
         by_cases h2 : N < 5
         ·have d2 : decide (N < 5) = true := decide_eq_true h2
          have d2' : decide ((N : Int) < 5) = true := decide_eq_true (by omega);obtain ⟨TF, hTF⟩ : ∃ TF, T - F = TF := ⟨_, rfl⟩
          have htf : (T : Int) - (F : Int) = (TF : Int) := by omega
          by_cases h3 : TF < ns.length
          ·have d3 : decide (TF < ns.length) = true := decide_eq_true h3
           have hcond : 0 < Z - A ∧ Z - A < 5 ∧ T - F < ns.length := ⟨by omega, by omega, by omega⟩;have hwb := HBZ.out _ _ HSE.out;have CW := Lib.hid (wider_any ns l ⟨F, T, A, Z⟩ HSO.out (by dsimp only; omega) hl hn _ wr (nodesIn_kept HV.out hwb));have HSN := Lib.hid (span_wide HSO.out (show T - F < ns.length from hcond.2.2));obtain ⟨kx, hkx⟩ : ∃ kx, gk = kx + 1 := ⟨gk - 1, by omega⟩
           have HQ2 : Hid (unlikeA ns l = widerA ns kx (wideA ns ⟨F, T, A, Z⟩)) := Lib.hid (by
            have h9 := HQ.out;rw [hkx] at h9;rw [h9]
            conv => lhs; unfold widerA
            rw [if_pos hcond])
           have hmeas : ns.length - ((wideA ns ⟨F, T, A, Z⟩).last - (wideA ns ⟨F, T, A, Z⟩).first) ≤ kx := by
            unfold wideA;dsimp only
            split <;> (dsimp only; omega)
           have HKX := Lib.hid hkx;have HMS := Lib.hid hmeas;obtain ⟨s2, hs2⟩ : ∃ s2, wideA ns ⟨F, T, A, Z⟩ = s2 := ⟨_, rfl⟩;rw [hs2] at CW HSN HQ2 HMS;clear hs2 HQ hkx hmeas hcond hTF hwb;obtain ⟨F2, T2, A2, Z2⟩ := s2;obtain ⟨u1, u2, u3, u4, u5, u6⟩ := HSN.out;dsimp only at u1 u2 u3 u4;clear u5 u6
           go_upto_region 11 with fail
           have x2 := HSE.out.blk.cell 2;have x3 := HSE.out.blk.cell 3;simp only [List.getElem?_toArray, List.getElem?_cons_zero, List.getElem?_cons_succ] at x2 x3;go_wp2_with fail
           refine CW.out.mono ?_; rintro e w6 ⟨rfl, b6⟩;have HS6 := Lib.hid (HSE.out.kept b6);have y0 := HS6.out.blk.cell 0;have y1 := HS6.out.blk.cell 1;have y2 := HS6.out.blk.cell 2;have y3 := HS6.out.blk.cell 3;have g0 := HS6.out.blk.frozen 0;have g1 := HS6.out.blk.frozen 1;have g2 := HS6.out.blk.frozen 2;have g3 := HS6.out.blk.frozen 3;simp only [List.getElem?_toArray, List.getElem?_cons_zero, List.getElem?_cons_succ] at y0 y1 y2 y3
           have HS7 : Hid (SpAt X w3 ⟨F2, T2, A2, Z2⟩ ((((w6.setCell ⟨X, 0, none⟩ (.int .i64 (F2 : Int))).setCell ⟨X, 1, none⟩ (.int .i64 (T2 : Int))).setCell ⟨X, 2, none⟩ (.int .i64 (A2 : Int))).setCell ⟨X, 3, none⟩ (.int .i64 (Z2 : Int)))) :=
            Lib.hid ((((HS6.out.set (s' := ⟨F2, T, A, Z⟩) 0 _ rfl).set (s' := ⟨F2, T2, A, Z⟩) 1 _ rfl).set (s' := ⟨F2, T2, A2, Z⟩) 2 _ rfl).set (s' := ⟨F2, T2, A2, Z2⟩) 3 _ rfl)
           clear CW b6 x0 x1 x2 x3 HSE
           go_upto_region 10 with fail
           clear y0 y1 y2 y3 g0 g1 g2 g3 HS6;generalize (((w6.setCell ⟨X, 0, none⟩ (.int .i64 (F2 : Int))).setCell ⟨X, 1, none⟩ (.int .i64 (T2 : Int))).setCell ⟨X, 2, none⟩ (.int .i64 (A2 : Int))).setCell ⟨X, 3, none⟩ (.int .i64 (Z2 : Int)) = w7 at *;have y2 := HS7.out.blk.cell 2;have y3 := HS7.out.blk.cell 3;simp only [List.getElem?_toArray, List.getElem?_cons_zero, List.getElem?_cons_succ] at y2 y3;obtain ⟨N2, hN2⟩ : ∃ N, Z2 - A2 = N := ⟨_, rfl⟩
           have hza : (Z2 : Int) - (A2 : Int) = (N2 : Int) := by omega
           have HN2 := Lib.hid hN2;clear hN2;go_wp2
           try simp only [hza]
           go_roundg kx
           case measure => have := HKX.out; omega
           case rel => exact ⟨⟨F2, T2, A2, Z2⟩, N2, HS7, HSN, HMS.out, rfl, HN2.out, HQ2⟩
          ·have d3 : decide (TF < ns.length) = false := decide_eq_false h3
           have HEQ : Hid (unlikeA ns l = ⟨F, T, A, Z⟩) := Lib.hid (by rw [HQ.out, wide_stop (by rintro ⟨-, -, h⟩; dsimp only at h; omega)]);clear HQ hTF;have x0 := HSE.out.blk.cell 0;have x1 := HSE.out.blk.cell 1;have x2 := HSE.out.blk.cell 2;have x3 := HSE.out.blk.cell 3;have hrx := HRX.out;have hre := (HSE.out.z.block _ HR3.out.lt (by omega)).trans HR3.out;have HRE : Hid (Blk w.heap.size #[.int .i64 0, .int .i64 0, .int .i64 0, .int .i64 0] 200 _) := Lib.hid hre;have r0 := HRE.out.cell 0;have r1 := HRE.out.cell 1;have r2 := HRE.out.cell 2;have r3 := HRE.out.cell 3;have g0 := HRE.out.frozen 0;have g1 := HRE.out.frozen 1;have g2 := HRE.out.frozen 2;have g3 := HRE.out.frozen 3;simp only [List.getElem?_toArray, List.getElem?_cons_zero, List.getElem?_cons_succ] at x0 x1 x2 x3 r0 r1 r2 r3;have HBE := Lib.hid (HBZ.out _ _ HSE.out);have HD := Lib.hid fun (a b c d : Value) => (((HBE.out.setCell (p := ⟨w.heap.size, 0, none⟩) (Nat.le_refl _) a).setCell (p := ⟨w.heap.size, 1, none⟩) (Nat.le_refl _) b).setCell (p := ⟨w.heap.size, 2, none⟩) (Nat.le_refl _) c).setCell (p := ⟨w.heap.size, 3, none⟩) (Nat.le_refl _) d;clear hre HRE;go_wp2
           (try simp only [Exit.inBlock, Exit.then])
           refine bodyPost_ret (v := spanV ⟨F, T, A, Z⟩) ?_ rfl ⟨by rw [HEQ.out], ?_⟩
           ·rw [results_one_cell rfl]
            go_simp
           ·exact HD.out _ _ _ _
         ·have d2 : decide (N < 5) = false := decide_eq_false h2
          have d2' : decide ((N : Int) < 5) = false := decide_eq_false (by omega);have HEQ : Hid (unlikeA ns l = ⟨F, T, A, Z⟩) := Lib.hid (by rw [HQ.out, wide_stop (by rintro ⟨-, h, -⟩; dsimp only at h; omega)]);clear HQ;have x0 := HSE.out.blk.cell 0;have x1 := HSE.out.blk.cell 1;have x2 := HSE.out.blk.cell 2;have x3 := HSE.out.blk.cell 3;have hrx := HRX.out;have hre := (HSE.out.z.block _ HR3.out.lt (by omega)).trans HR3.out;have HRE : Hid (Blk w.heap.size #[.int .i64 0, .int .i64 0, .int .i64 0, .int .i64 0] 200 _) := Lib.hid hre;have r0 := HRE.out.cell 0;have r1 := HRE.out.cell 1;have r2 := HRE.out.cell 2;have r3 := HRE.out.cell 3;have g0 := HRE.out.frozen 0;have g1 := HRE.out.frozen 1;have g2 := HRE.out.frozen 2;have g3 := HRE.out.frozen 3;simp only [List.getElem?_toArray, List.getElem?_cons_zero, List.getElem?_cons_succ] at x0 x1 x2 x3 r0 r1 r2 r3;have HBE := Lib.hid (HBZ.out _ _ HSE.out);have HD := Lib.hid fun (a b c d : Value) => (((HBE.out.setCell (p := ⟨w.heap.size, 0, none⟩) (Nat.le_refl _) a).setCell (p := ⟨w.heap.size, 1, none⟩) (Nat.le_refl _) b).setCell (p := ⟨w.heap.size, 2, none⟩) (Nat.le_refl _) c).setCell (p := ⟨w.heap.size, 3, none⟩) (Nat.le_refl _) d;clear hre HRE;go_wp2
          (try simp only [Exit.inBlock, Exit.then])
          refine bodyPost_ret (v := spanV ⟨F, T, A, Z⟩) ?_ rfl ⟨by rw [HEQ.out], ?_⟩
          ·rw [results_one_cell rfl]
           go_simp
          ·exact HD.out _ _ _ _
        ·have d1 : decide (0 < N) = false := decide_eq_false h1
         have HEQ : Hid (unlikeA ns l = ⟨F, T, A, Z⟩) := Lib.hid (by rw [HQ.out, wide_stop (by rintro ⟨h, -, -⟩; dsimp only at h; omega)]);clear HQ;have x0 := HSE.out.blk.cell 0;have x1 := HSE.out.blk.cell 1;have x2 := HSE.out.blk.cell 2;have x3 := HSE.out.blk.cell 3;have hrx := HRX.out;have hre := (HSE.out.z.block _ HR3.out.lt (by omega)).trans HR3.out;have HRE : Hid (Blk w.heap.size #[.int .i64 0, .int .i64 0, .int .i64 0, .int .i64 0] 200 _) := Lib.hid hre;have r0 := HRE.out.cell 0;have r1 := HRE.out.cell 1;have r2 := HRE.out.cell 2;have r3 := HRE.out.cell 3;have g0 := HRE.out.frozen 0;have g1 := HRE.out.frozen 1;have g2 := HRE.out.frozen 2;have g3 := HRE.out.frozen 3;simp only [List.getElem?_toArray, List.getElem?_cons_zero, List.getElem?_cons_succ] at x0 x1 x2 x3 r0 r1 r2 r3;have HBE := Lib.hid (HBZ.out _ _ HSE.out);have HD := Lib.hid fun (a b c d : Value) => (((HBE.out.setCell (p := ⟨w.heap.size, 0, none⟩) (Nat.le_refl _) a).setCell (p := ⟨w.heap.size, 1, none⟩) (Nat.le_refl _) b).setCell (p := ⟨w.heap.size, 2, none⟩) (Nat.le_refl _) c).setCell (p := ⟨w.heap.size, 3, none⟩) (Nat.le_refl _) d;clear hre HRE;go_wp2
         (try simp only [Exit.inBlock, Exit.then])
         refine bodyPost_ret (v := spanV ⟨F, T, A, Z⟩) ?_ rfl ⟨by rw [HEQ.out], ?_⟩
         ·rw [results_one_cell rfl]
          go_simp
         ·exact HD.out _ _ _ _
     | true =>
       have hcond : F < T ∧ endsA ((l.drop A).take (Z - A)) (nodeAt ns (T - 1)) = true := ⟨hft, by rw [hT1]; exact HBG.out⟩;have HSN := Lib.hid (span_bwd1 HSO.out hcond);obtain ⟨kx, hkx⟩ : ∃ kx, gk = kx + 1 := ⟨gk - 1, by omega⟩
       have HQ2 : Hid (unlikeA ns l = widerA ns ns.length (bwdA ns l kx ⟨F, T - 1, A, Z - (nodeAt ns (T - 1)).length⟩)) := Lib.hid (by
        have h9 := HQ.out;rw [hkx] at h9;rw [h9]
        conv => lhs; unfold bwdA
        rw [if_pos hcond])
       have HKX := Lib.hid hkx;rw [hT1] at HSN HQ2
       have hnz : (nodeAt ns T1).length ≤ Z := by
        have h1 := hcond.2;rw [hT1] at h1;unfold endsA at h1;rw [Bool.and_eq_true, decide_eq_true_iff, List.length_take, List.length_drop] at h1;omega
       obtain ⟨nl, hnl⟩ : ∃ nl, (nodeAt ns T1).length = nl := ⟨_, rfl⟩;rw [hnl] at HQ2 HSN cn CB hnz;obtain ⟨Z1, hZ1⟩ : ∃ Z1, Z - nl = Z1 := ⟨_, rfl⟩
       have hz1 : (Z : Int) - (nl : Int) = (Z1 : Int) := by omega
       rw [hZ1] at HQ2 HSN;obtain ⟨u1, u2, u3, u4, u5, u6⟩ := HSN.out;dsimp only at u1 u2 u3 u4;clear u5 u6 hZ1 HQ hkx hcond hT1
       go_upto_region 5 with fail
       refine wp_region_quiet_below mixed (by kernel_rfl) ?_
       repeat (go_big_quiet_step (refine calls_below (CB.out _)))
       refine wpQuiet_nil ?_;intro w0q hw';obtain ⟨⟨wq, bq⟩, hw''⟩ := hw';have hw2 : wq = w0q := hw''.symm;clear hw'';subst hw2;have HSQ := Lib.hid (HSA.out.kept bq);clear c0 c1 c2 c3 cn hsl CB HSA bq hwb;have e1 := HSQ.out.blk.cell 1;simp only [List.getElem?_toArray, List.getElem?_cons_zero, List.getElem?_cons_succ] at e1;have g1 := HSQ.out.blk.frozen 1;have HS6 : Hid (SpAt X w3 ⟨F, T1, A, Z⟩ (wq.setCell ⟨X, 1, none⟩ (.int .i64 (T1 : Int)))) := Lib.hid (HSQ.out.set 1 _ rfl)
       go_upto_region 7 with fail
       try simp only [ht1]
       clear e1 g1 HSQ;generalize wq.setCell ⟨X, 1, none⟩ (.int .i64 (T1 : Int)) = w6 at *;have hwb := HBZ.out _ _ HS6.out;have c1 := fun q : BelowP w6 => (HS6.out.cells q).2.1;have c3 := fun q : BelowP w6 => (HS6.out.cells q).2.2.2;dsimp only at c1 c3;have cn := fun q : BelowP w6 => (HNK.out q.to (hwb.trans (q.h.mono hwb.size))).1;rw [hnl] at cn;clear hnl;refine wp_region_tail_below 10 mixed (by kernel_rfl) ?_;simp only [List.take_succ_cons, List.take_zero, List.drop_succ_cons, List.drop_zero]
       repeat (go_big_quiet_step (fail))
       refine wpQuiet_nil ?_;intro w0q hw';obtain ⟨⟨wq, bq⟩, hw''⟩ := hw';have hw2 : wq = w0q := hw''.symm;clear hw'';subst hw2;have HS7 := Lib.hid (HS6.out.kept bq);have e3 := HS7.out.blk.cell 3;simp only [List.getElem?_toArray, List.getElem?_cons_zero, List.getElem?_cons_succ] at e3;have g3 := HS7.out.blk.frozen 3;have HS8 : Hid (SpAt X w3 ⟨F, T1, A, Z1⟩ (wq.setCell ⟨X, 3, none⟩ (.int .i64 (Z1 : Int)))) := Lib.hid (HS7.out.set 3 _ rfl);clear c1 c3 cn HS6 bq hwb;go_wp2
       try simp only [hz1]
       go_roundg kx
       case measure => have := HKX.out; omega
       case rel => exact ⟨⟨F, T1, A, Z1⟩, HS8, HSN, by have := HKX.out; have := HT1.out; dsimp only; omega, HQ2⟩
    ·have HQ2 : Hid (unlikeA ns l = widerA ns ns.length ⟨F, T, A, Z⟩) := Lib.hid (by rw [HQ.out, bwd_stop (fun h => hft h.1)])
     have d1 : decide (F < T) = false := decide_eq_false hft
     go_upto_region 5 with fail
     refine wp_region_quiet_below mixed (by kernel_rfl) ?_
     repeat (go_big_quiet_step (fail))
     refine wpQuiet_nil ?_;intro w0q hw';obtain ⟨⟨wq, bq⟩, hw''⟩ := hw';have hw2 : wq = w0q := hw''.symm;clear hw'';subst hw2;have HSQ := Lib.hid (HSA.out.kept bq);have HSOQ := HSO;clear c0 c1 c2 c3 HSA bq HQ d1;obtain ⟨q1, q2, q3, q4, q5, q6⟩ := HSOQ.out;dsimp only at q1 q2 q3 q4;clear q5 q6;have e2 := HSQ.out.blk.cell 2;have e3 := HSQ.out.blk.cell 3;simp only [List.getElem?_toArray, List.getElem?_cons_zero, List.getElem?_cons_succ] at e2 e3;obtain ⟨N0, hN0⟩ : ∃ N, Z - A = N := ⟨_, rfl⟩
     have hza : (Z : Int) - (A : Int) = (N0 : Int) := by omega
     have HN0 := Lib.hid hN0;clear hN0;go_wp2
     try simp only [hza]
     clear hza
     go_loopg [6] ns.length (fun kx nv wr => ∃ (s : Span) (N : Nat), Hid (SpAt X w3 s wr) ∧ Hid (SpanOk ns l s) ∧ ns.length - (s.last - s.first) ≤ kx ∧ nv = .int .i64 (N : Int) ∧ s.stop - s.start = N ∧ Hid (unlikeA ns l = widerA ns kx s))
     case atStart => exact ⟨⟨F, T, A, Z⟩, N0, HSQ, HSOQ, Nat.sub_le _ _, rfl, HN0.out, HQ2⟩
     case round =>
      obtain ⟨s, N, HSE, HSO, hk, rfl, hN, HQ⟩ := hrel;clear HSQ HSOQ HQ2 e2 e3 HN0 q1 q2 q3 q4;obtain ⟨q1, q2, q3, q4, q5, q6⟩ := HSO.out;obtain ⟨F, T, A, Z⟩ := s;dsimp only at q1 q2 q3 q4 hk hN;clear q5 q6;have x0 := HSE.out.blk.cell 0;have x1 := HSE.out.blk.cell 1;simp only [List.getElem?_toArray, List.getElem?_cons_zero, List.getElem?_cons_succ] at x0 x1;have HNN := Lib.hid hN;by_cases h1 : 0 < N
      ·have d1 : decide (0 < N) = true := decide_eq_true h1
       by_cases h2 : N < 5
       ·have d2 : decide (N < 5) = true := decide_eq_true h2
        have d2' : decide ((N : Int) < 5) = true := decide_eq_true (by omega);obtain ⟨TF, hTF⟩ : ∃ TF, T - F = TF := ⟨_, rfl⟩
        have htf : (T : Int) - (F : Int) = (TF : Int) := by omega
        by_cases h3 : TF < ns.length
        ·have d3 : decide (TF < ns.length) = true := decide_eq_true h3
         have hcond : 0 < Z - A ∧ Z - A < 5 ∧ T - F < ns.length := ⟨by omega, by omega, by omega⟩;have hwb := HBZ.out _ _ HSE.out;have CW := Lib.hid (wider_any ns l ⟨F, T, A, Z⟩ HSO.out (by dsimp only; omega) hl hn _ wr (nodesIn_kept HV.out hwb));have HSN := Lib.hid (span_wide HSO.out (show T - F < ns.length from hcond.2.2));obtain ⟨kx, hkx⟩ : ∃ kx, gk = kx + 1 := ⟨gk - 1, by omega⟩
         have HQ2 : Hid (unlikeA ns l = widerA ns kx (wideA ns ⟨F, T, A, Z⟩)) := Lib.hid (by
          have h9 := HQ.out;rw [hkx] at h9;rw [h9]
          conv => lhs; unfold widerA
          rw [if_pos hcond])
         have hmeas : ns.length - ((wideA ns ⟨F, T, A, Z⟩).last - (wideA ns ⟨F, T, A, Z⟩).first) ≤ kx := by
          unfold wideA;dsimp only
          split <;> (dsimp only; omega)
         have HKX := Lib.hid hkx;have HMS := Lib.hid hmeas;obtain ⟨s2, hs2⟩ : ∃ s2, wideA ns ⟨F, T, A, Z⟩ = s2 := ⟨_, rfl⟩;rw [hs2] at CW HSN HQ2 HMS;clear hs2 HQ hkx hmeas hcond hTF hwb;obtain ⟨F2, T2, A2, Z2⟩ := s2;obtain ⟨u1, u2, u3, u4, u5, u6⟩ := HSN.out;dsimp only at u1 u2 u3 u4;clear u5 u6
         go_upto_region 11 with fail
         have x2 := HSE.out.blk.cell 2;have x3 := HSE.out.blk.cell 3;simp only [List.getElem?_toArray, List.getElem?_cons_zero, List.getElem?_cons_succ] at x2 x3;go_wp2_with fail
         refine CW.out.mono ?_; rintro e w6 ⟨rfl, b6⟩;have HS6 := Lib.hid (HSE.out.kept b6);have y0 := HS6.out.blk.cell 0;have y1 := HS6.out.blk.cell 1;have y2 := HS6.out.blk.cell 2;have y3 := HS6.out.blk.cell 3;have g0 := HS6.out.blk.frozen 0;have g1 := HS6.out.blk.frozen 1;have g2 := HS6.out.blk.frozen 2;have g3 := HS6.out.blk.frozen 3;simp only [List.getElem?_toArray, List.getElem?_cons_zero, List.getElem?_cons_succ] at y0 y1 y2 y3
         have HS7 : Hid (SpAt X w3 ⟨F2, T2, A2, Z2⟩ ((((w6.setCell ⟨X, 0, none⟩ (.int .i64 (F2 : Int))).setCell ⟨X, 1, none⟩ (.int .i64 (T2 : Int))).setCell ⟨X, 2, none⟩ (.int .i64 (A2 : Int))).setCell ⟨X, 3, none⟩ (.int .i64 (Z2 : Int)))) :=
          Lib.hid ((((HS6.out.set (s' := ⟨F2, T, A, Z⟩) 0 _ rfl).set (s' := ⟨F2, T2, A, Z⟩) 1 _ rfl).set (s' := ⟨F2, T2, A2, Z⟩) 2 _ rfl).set (s' := ⟨F2, T2, A2, Z2⟩) 3 _ rfl)
         clear CW b6 x0 x1 x2 x3 HSE
         go_upto_region 10 with fail
         clear y0 y1 y2 y3 g0 g1 g2 g3 HS6;generalize (((w6.setCell ⟨X, 0, none⟩ (.int .i64 (F2 : Int))).setCell ⟨X, 1, none⟩ (.int .i64 (T2 : Int))).setCell ⟨X, 2, none⟩ (.int .i64 (A2 : Int))).setCell ⟨X, 3, none⟩ (.int .i64 (Z2 : Int)) = w7 at *;have y2 := HS7.out.blk.cell 2;have y3 := HS7.out.blk.cell 3;simp only [List.getElem?_toArray, List.getElem?_cons_zero, List.getElem?_cons_succ] at y2 y3;obtain ⟨N2, hN2⟩ : ∃ N, Z2 - A2 = N := ⟨_, rfl⟩
         have hza : (Z2 : Int) - (A2 : Int) = (N2 : Int) := by omega
         have HN2 := Lib.hid hN2;clear hN2;go_wp2
         try simp only [hza]
         go_roundg kx
         case measure => have := HKX.out; omega
         case rel => exact ⟨⟨F2, T2, A2, Z2⟩, N2, HS7, HSN, HMS.out, rfl, HN2.out, HQ2⟩
        ·have d3 : decide (TF < ns.length) = false := decide_eq_false h3
         have HEQ : Hid (unlikeA ns l = ⟨F, T, A, Z⟩) := Lib.hid (by rw [HQ.out, wide_stop (by rintro ⟨-, -, h⟩; dsimp only at h; omega)]);clear HQ hTF;have x0 := HSE.out.blk.cell 0;have x1 := HSE.out.blk.cell 1;have x2 := HSE.out.blk.cell 2;have x3 := HSE.out.blk.cell 3;have hrx := HRX.out;have hre := (HSE.out.z.block _ HR3.out.lt (by omega)).trans HR3.out;have HRE : Hid (Blk w.heap.size #[.int .i64 0, .int .i64 0, .int .i64 0, .int .i64 0] 200 _) := Lib.hid hre;have r0 := HRE.out.cell 0;have r1 := HRE.out.cell 1;have r2 := HRE.out.cell 2;have r3 := HRE.out.cell 3;have g0 := HRE.out.frozen 0;have g1 := HRE.out.frozen 1;have g2 := HRE.out.frozen 2;have g3 := HRE.out.frozen 3;simp only [List.getElem?_toArray, List.getElem?_cons_zero, List.getElem?_cons_succ] at x0 x1 x2 x3 r0 r1 r2 r3;have HBE := Lib.hid (HBZ.out _ _ HSE.out);have HD := Lib.hid fun (a b c d : Value) => (((HBE.out.setCell (p := ⟨w.heap.size, 0, none⟩) (Nat.le_refl _) a).setCell (p := ⟨w.heap.size, 1, none⟩) (Nat.le_refl _) b).setCell (p := ⟨w.heap.size, 2, none⟩) (Nat.le_refl _) c).setCell (p := ⟨w.heap.size, 3, none⟩) (Nat.le_refl _) d;clear hre HRE;go_wp2
         (try simp only [Exit.inBlock, Exit.then])
         refine bodyPost_ret (v := spanV ⟨F, T, A, Z⟩) ?_ rfl ⟨by rw [HEQ.out], ?_⟩
         ·rw [results_one_cell rfl]
          go_simp
         ·exact HD.out _ _ _ _
       ·have d2 : decide (N < 5) = false := decide_eq_false h2
        have d2' : decide ((N : Int) < 5) = false := decide_eq_false (by omega);have HEQ : Hid (unlikeA ns l = ⟨F, T, A, Z⟩) := Lib.hid (by rw [HQ.out, wide_stop (by rintro ⟨-, h, -⟩; dsimp only at h; omega)]);clear HQ;have x0 := HSE.out.blk.cell 0;have x1 := HSE.out.blk.cell 1;have x2 := HSE.out.blk.cell 2;have x3 := HSE.out.blk.cell 3;have hrx := HRX.out;have hre := (HSE.out.z.block _ HR3.out.lt (by omega)).trans HR3.out;have HRE : Hid (Blk w.heap.size #[.int .i64 0, .int .i64 0, .int .i64 0, .int .i64 0] 200 _) := Lib.hid hre;have r0 := HRE.out.cell 0;have r1 := HRE.out.cell 1;have r2 := HRE.out.cell 2;have r3 := HRE.out.cell 3;have g0 := HRE.out.frozen 0;have g1 := HRE.out.frozen 1;have g2 := HRE.out.frozen 2;have g3 := HRE.out.frozen 3;simp only [List.getElem?_toArray, List.getElem?_cons_zero, List.getElem?_cons_succ] at x0 x1 x2 x3 r0 r1 r2 r3;have HBE := Lib.hid (HBZ.out _ _ HSE.out);have HD := Lib.hid fun (a b c d : Value) => (((HBE.out.setCell (p := ⟨w.heap.size, 0, none⟩) (Nat.le_refl _) a).setCell (p := ⟨w.heap.size, 1, none⟩) (Nat.le_refl _) b).setCell (p := ⟨w.heap.size, 2, none⟩) (Nat.le_refl _) c).setCell (p := ⟨w.heap.size, 3, none⟩) (Nat.le_refl _) d;clear hre HRE;go_wp2
        (try simp only [Exit.inBlock, Exit.then])
        refine bodyPost_ret (v := spanV ⟨F, T, A, Z⟩) ?_ rfl ⟨by rw [HEQ.out], ?_⟩
        ·rw [results_one_cell rfl]
         go_simp
        ·exact HD.out _ _ _ _
      ·have d1 : decide (0 < N) = false := decide_eq_false h1
       have HEQ : Hid (unlikeA ns l = ⟨F, T, A, Z⟩) := Lib.hid (by rw [HQ.out, wide_stop (by rintro ⟨h, -, -⟩; dsimp only at h; omega)]);clear HQ;have x0 := HSE.out.blk.cell 0;have x1 := HSE.out.blk.cell 1;have x2 := HSE.out.blk.cell 2;have x3 := HSE.out.blk.cell 3;have hrx := HRX.out;have hre := (HSE.out.z.block _ HR3.out.lt (by omega)).trans HR3.out;have HRE : Hid (Blk w.heap.size #[.int .i64 0, .int .i64 0, .int .i64 0, .int .i64 0] 200 _) := Lib.hid hre;have r0 := HRE.out.cell 0;have r1 := HRE.out.cell 1;have r2 := HRE.out.cell 2;have r3 := HRE.out.cell 3;have g0 := HRE.out.frozen 0;have g1 := HRE.out.frozen 1;have g2 := HRE.out.frozen 2;have g3 := HRE.out.frozen 3;simp only [List.getElem?_toArray, List.getElem?_cons_zero, List.getElem?_cons_succ] at x0 x1 x2 x3 r0 r1 r2 r3;have HBE := Lib.hid (HBZ.out _ _ HSE.out);have HD := Lib.hid fun (a b c d : Value) => (((HBE.out.setCell (p := ⟨w.heap.size, 0, none⟩) (Nat.le_refl _) a).setCell (p := ⟨w.heap.size, 1, none⟩) (Nat.le_refl _) b).setCell (p := ⟨w.heap.size, 2, none⟩) (Nat.le_refl _) c).setCell (p := ⟨w.heap.size, 3, none⟩) (Nat.le_refl _) d;clear hre HRE;go_wp2
       (try simp only [Exit.inBlock, Exit.then])
       refine bodyPost_ret (v := spanV ⟨F, T, A, Z⟩) ?_ rfl ⟨by rw [HEQ.out], ?_⟩
       ·rw [results_one_cell rfl]
        go_simp
       ·exact HD.out _ _ _ _
end Go.Proofs.YtknefoemgifbfaaGreat
