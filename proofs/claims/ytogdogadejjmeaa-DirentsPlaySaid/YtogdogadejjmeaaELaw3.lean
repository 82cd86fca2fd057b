/- The walk of DirentsPack. -/
import Derived.Test.YtogdogadejjmeaaELaw1
import Derived.Test.YtogdogadejjmeaaERPack2
import Derived.Laws.AppendOwnNone
namespace Go.Proofs.Ytogdogadejjmeaa
set_option linter.unusedVariables false
open Go.RowKit

/-- append of whatever row to a row of one's own -/
theorem appD_run (W : World) (ty : TypeId) (base : Nat) (v : Value) (L : List Den) (hown : DensAt base v L W) (u : Value) (M : List Den) (hu : DensIn u M W) (hl : L.length + M.length ≤ 4000) (hbase : base ≤ W.heap.size) :
    ∃ v' w', (Builtin.append_ #[22, 22] ty #[v, u]).run Try.prog W = .ok v' w' ∧ DensAt base v' (L ++ M) w' ∧ W.grownBy w' v.ownBlock := by
  obtain ⟨i0, hi, hz0, hz1, hz2⟩ := info_parts den_info
  obtain ⟨h0, ad, cap, rfl, a1, a2, a3, a4⟩ := hu
  cases ad with
  | none =>
    have hc := a4 rfl
    subst hc
    have hm : M = [] := List.eq_nil_of_length_eq_zero (by omega)
    subst hm
    refine ⟨v, W, ?_, by rw [List.append_nil]; exact hown, ⟨rfl, rfl, rfl, Nat.le_refl _, fun _ _ _ => rfl⟩⟩
    exact run_append_owned_none (P := Try.prog) (w := W) base 22 ty 25 i0 2 Try.underlying22 hi v L.length (cellsD L) hown
  | some ad =>
    have hnews : ∀ j x, (cellsD M)[j]? = some x → W.cell? (ad.add j) = some x := by
      intro j x hj
      have hlt := (List.getElem?_eq_some_iff.1 hj).1
      obtain ⟨g, o, e, _, hc⟩ := a3 (by omega)
      cases e
      rw [add_at]; exact hc j x hj
    obtain ⟨v', w', hr, k1, k2, _⟩ := run_append_own (P := Try.prog) W base 22 ty 25 i0 _ 2 24 Try.underlying22 hi hz0 hz1 hz2 rfl (by decide) v L.length (cellsD L) hown ad M.length cap (cellsD M) (cellsD_length M) hnews (fun x hx => cellsD_flat M x hx) (by unfold maxLen; omega) (by omega) hbase
    refine ⟨v', w', hr, ?_, k2⟩
    show w'.ownsRow _ _ _ _ (L ++ M).length (cellsD (L ++ M))
    rw [List.length_append, cellsD_append]; exact k1
theorem wpList_appDM {ops : Array Oper} {rest : List Oper} {o : Oper} {a : Act} {Q : Exit → Act → World → Prop} {w : World} (hgd : o.guard = none) (s x : Operand)
    (ho : o.op = .call { callee := .builtin .append, args := #[s, x], argTypes := #[22, 22] })
    (base : Nat) (v : Value) (L : List Den) (hs : a.eval s = v) (hown : DensAt base v L w) (u : Value) (M : List Den) (hx : a.eval x = u) (hu : DensIn u M w) (hl : L.length + M.length ≤ 4000) (hbase : base ≤ w.heap.size)
    (h : ∀ v' w', DensAt base v' (L ++ M) w' → Below base w w' → wpList Try.prog ops Q rest (a.put o.dst v') w') : wpList Try.prog ops Q (o :: rest) a w := by
  refine wpList_plain hgd fun K' hK' => ?_
  obtain ⟨v', w', hrun, r1, r2⟩ := appD_run w o.type base v L hown u M hu hl hbase
  unfold Oper.wp
  simp [execOp, ho, resolve, invoke, builtin, hs, hx, hrun, Result.andThen]
  exact hK' _ _ (h v' w' r1 (below_of_row hown r2 hbase))
theorem room_dens (n : Nat) (hn : n ≤ 4000) (W : World) : (Instr.makeSlice 22 (.int .i64 0) (.int .i64 (n : Int))).run Try.prog W = .ok (.slice (some ⟨W.heap.size, 0, none⟩) 0 n) (W.alloc (.cells (madeCells #[.string ⟨#[]⟩, .int .i64 0] (n * 2)) 25)) ∧
    DensAt W.heap.size (.slice (some ⟨W.heap.size, 0, none⟩) 0 n) [] (W.alloc (.cells (madeCells #[.string ⟨#[]⟩, .int .i64 0] (n * 2)) 25)) := by
  obtain ⟨i, hi, hz, hs, hb⟩ := info_parts den_info
  obtain ⟨w', hr, ho, hg⟩ := run_make_own (P := Try.prog) (w := W) W.heap.size 22 25 i _ 2 Try.underlying22 hi hz hs .i64 .i64 n (by rw [hb]; omega) (by unfold maxLen; omega) (Nat.le_refl _)
  have h := run_make (P := Try.prog) W 22 25 i _ Try.underlying22 hi hz .i64 .i64 0 n (by omega) (by omega) (by rw [hb]; omega) (by omega)
  have h2 := hr.symm.trans h
  injection h2 with _ e
  subst e
  refine ⟨by simpa [hs, Value.cells] using h, ?_⟩
  simp [hs, Value.cells] at ho
  exact ho
theorem twin_inD {B : Nat} {ad : Option Addr} {cp n : Nat} {L : List Den} {x y : Den} {w : World} (hn : L.length = n) (h : w.ownsRow B 25 2 (.slice ad (n + 2) cp) (L ++ [x, y]).length (cellsD (L ++ [x, y]))) : DensIn (.slice ad n cp) L w := by
  have hl : (L ++ [x, y]).length = n + 2 := by simp [hn]
  rw [hl] at h
  obtain ⟨ad', cp', e1, h1, h2, h3⟩ := shape_of h
  cases e1
  obtain ⟨g, rfl, hB, hg⟩ := h3 (by omega)
  refine ⟨cellsD_length L, _, _, by rw [hn], by omega, h2, fun _ => ⟨g, 0, rfl, hg, fun k u hk => ?_⟩, fun h => by cases h⟩
  have hl := (List.getElem?_eq_some_iff.1 hk).1
  rw [cellsD_length] at hl
  rw [Nat.zero_add, h.cellAt k (by omega), ← hk, cellsD_append, List.getElem?_append_left (by rw [cellsD_length]; exact hl)]
theorem twin_endsD {B : Nat} {ad : Option Addr} {cp n : Nat} {L : List Den} {x y : Den} {w : World} (hn : L.length = n) (h : w.ownsRow B 25 2 (.slice ad (n + 2) cp) (L ++ [x, y]).length (cellsD (L ++ [x, y]))) :
    ∃ g, ad = some ⟨g, 0, none⟩ ∧ g < w.heap.size ∧ n + 2 ≤ cp ∧ cp ≤ 9223372036854775807 ∧ w.cell? ⟨g, n * 2 + 1, none⟩ = some (.int .i64 x.ino) ∧ w.cell? ⟨g, (n + 1) * 2 + 1, none⟩ = some (.int .i64 y.ino) := by
  have hl : (L ++ [x, y]).length = n + 2 := by simp [hn]
  rw [hl] at h
  obtain ⟨ad', cp', e1, h1, h2, h3⟩ := shape_of h
  cases e1
  obtain ⟨g, rfl, hB, hg⟩ := h3 (by omega)
  have a := (cellsD_at (L ++ [x, y]) n (by rw [hl]; omega)).2
  have b := (cellsD_at (L ++ [x, y]) (n + 1) (by rw [hl]; omega)).2
  have ea : dat (L ++ [x, y]) n = x := by unfold dat; rw [List.getElem?_append_right (by omega), hn, Nat.sub_self]; rfl
  have eb : dat (L ++ [x, y]) (n + 1) = y := by unfold dat; rw [List.getElem?_append_right (by omega), hn, Nat.add_sub_cancel_left]; rfl
  rw [ea] at a
  rw [eb] at b
  exact ⟨g, rfl, hg, h1, h2, (h.cellAt _ (by omega)).trans a, (h.cellAt _ (by omega)).trans b⟩
def endsL : List Den := [⟨⟨#[]⟩, -70⟩, ⟨⟨#[]⟩, -71⟩]
set_option maxRecDepth 100000 in
set_option maxHeartbeats 500000 in
theorem epack_walk (l : List Den) (hf : fitW l) (v : Value) (w : World) (hv : DensIn v l w) :
    Calls Try.prog 3 #[v] w fun e w' => e = .returned (.bool true) ∧ Below w.heap.size w w' := by
  have G := great_any l (fun d hd => (hf d hd).1) v w hv
  obtain ⟨ad, cap, rfl, -⟩ := densIn_cells hv
  have AL := Lib.hid ealive_any
  cases hg : greatB l with
  | true =>
    rw [hg] at G
    have G := Lib.hid G
    clear hv
    go_enter Try.func3, Try.ntmps3
    go_wp2_with fail
    refine G.out.mono ?_; rintro e w1 ⟨rfl, b1⟩
    go_wp2
    go_ret
    exact ⟨rfl, b1⟩
  | false =>
    rw [hg] at G
    obtain ⟨f1, f2, f3⟩ := great_no hf hg
    have PK := fun v w hv => pack_any l (by omega) f1 (by omega) v w hv
    have RP := fun v w hv => rpack_any l (by omega) f1 (by omega) v w hv
    unfold packRet at PK RP
    have hss : ((packS l).toList == (packS l).toList) = true := by simp
    have hee : (packE l == packE l) = true := by simp
    have SM : Hid (∀ v u w, DensIn v l w → DensIn u l w → Calls Try.prog 12 #[v, u] w fun e w' => e = .returned (.bool true) ∧ Below w.heap.size w w') := Lib.hid fun v u w h1 h2 => by
      have := esame_any l l v u w h1 h2
      rwa [decide_eq_true rfl] at this
    generalize packS l = S at *
    generalize packE l = E at *
    have G := Lib.hid G
    have PK := Lib.hid PK
    have RP := Lib.hid RP
    have RM := Lib.hid (room_dens (l.length + 2) (by omega))
    have HV := Lib.hid hv
    clear hf hg f1 f3 hv
    go_enter Try.func3, Try.ntmps3
    go_wp2_with fail
    refine G.out.mono ?_; rintro e w1 ⟨rfl, b1⟩
    obtain ⟨m1, m2⟩ := RM.out w1
    rw [show ((l.length + 2 : Nat) : Int) = (l.length : Int) + 2 by omega] at m1
    have HM2 := Lib.hid m2
    have hv1 := HV.out.kept b1
    have hb0 := balloc1 w1 (.cells (madeCells #[.string ⟨#[]⟩, .int .i64 0] ((l.length + 2) * 2)) 25)
    have hv2 := Lib.hid (hv1.kept hb0)
    obtain ⟨wm, hwm⟩ : ∃ wm, w1.alloc (.cells (madeCells #[.string ⟨#[]⟩, .int .i64 0] ((l.length + 2) * 2)) 25) = wm := ⟨_, rfl⟩
    rw [hwm] at m1 HM2 hb0 hv2
    have hbm := bnext b1 hb0
    have hzm := hb0.size
    clear RM G m2 hv1 hwm
    go_wp2_with (at_builtin; refine wpList_appDM rfl _ _ rfl w1.heap.size (.slice (some ⟨w1.heap.size, 0, none⟩) 0 (l.length + 2)) [] rfl HM2.out (.slice ad l.length cap) l rfl hv2.out (by simp; omega) hzm ?_)
    intro v2 w2 hv2' b2
    obtain ⟨ad2, cap2, rfl, -⟩ := shape_of hv2'
    have hzb : w1.heap.size ≤ w2.heap.size := by have := b2.size; omega
    have hbw2 := hbm.trans (b2.mono b1.size)
    have HL2 := Lib.hid (World.ownsRow.alloc hv2' (.cells #[.string ⟨#[]⟩, .int .i64 (-70), .string ⟨#[]⟩, .int .i64 (-71)] 25))
    have HE2 := Lib.hid (lit_inD w2 endsL #[.string ⟨#[]⟩, .int .i64 (-70), .string ⟨#[]⟩, .int .i64 (-71)] (by decide) rfl)
    go_wp2_with (at_builtin; refine wpList_appDM rfl _ _ rfl w1.heap.size (.slice ad2 l.length cap2) l rfl HL2.out (.slice (some ⟨w2.heap.size, 0, none⟩) 2 2) endsL rfl HE2.out (by show l.length + 2 ≤ 4000; omega) (by rw [size_alloc]; omega) ?_)
    intro v3 w3 hv3 b3
    have hlen3 : (l ++ endsL).length = l.length + 2 := by rw [List.length_append]; rfl
    obtain ⟨ad3, cap3, e3, h31, h32, -⟩ := shape_of hv3
    rw [hlen3] at e3 h31
    subst e3
    have h32 : cap3 ≤ 9223372036854775807 := h32
    have hbw3 := (balloc hbw2 (.cells #[.string ⟨#[]⟩, .int .i64 (-70), .string ⟨#[]⟩, .int .i64 (-71)] 25)).trans (b3.mono b1.size)
    have HT := Lib.hid (twin_inD (L := l) rfl hv3)
    obtain ⟨g, rfl, hg, -, -, c0, c1⟩ := twin_endsD (L := l) rfl hv3
    have hv3' := HV.out.kept hbw3
    have hl2 : l.length ≤ cap3 := by omega
    have hl3 : l.length + 2 ≤ cap3 := h31
    clear hv3 hv2' b2 b3 HL2 HE2 hb0 hbm hbw2 HM2 hv2 m1
    go_wp2_with fail
    refine (PK.out _ _ HT.out).mono ?_; rintro e w4 ⟨rfl, b4⟩
    have HT4 := Lib.hid (HT.out.kept b4)
    have hv4 := hv3'.kept b4
    have hbw4 := bnext hbw3 b4
    have c0 := (b4.cell (p := ⟨g, l.length * 2 + 1, none⟩) hg).trans c0
    have c1 := (b4.cell (p := ⟨g, (l.length + 1) * 2 + 1, none⟩) hg).trans c1
    have hg := Nat.lt_of_lt_of_le hg b4.size
    clear b4 hbw3 hv3' HT
    go_wp2_with fail
    refine (RP.out _ _ hv4).mono ?_; rintro e w5 ⟨rfl, b5⟩
    have HT5 := Lib.hid (HT4.out.kept b5)
    have hv5 := hv4.kept b5
    have hbw5 := bnext hbw4 b5
    have c0 := (b5.cell (p := ⟨g, l.length * 2 + 1, none⟩) hg).trans c0
    have c1 := (b5.cell (p := ⟨g, (l.length + 1) * 2 + 1, none⟩) hg).trans c1
    have hg := Nat.lt_of_lt_of_le hg b5.size
    clear b5 hbw4 hv4 HT4
    go_wp2_with fail
    refine (SM.out _ _ _ HT5.out hv5).mono ?_; rintro e w6 ⟨rfl, b6⟩
    have hbw6 := bnext hbw5 b6
    have c0 := (b6.cell (p := ⟨g, l.length * 2 + 1, none⟩) hg).trans c0
    have c1 := (b6.cell (p := ⟨g, (l.length + 1) * 2 + 1, none⟩) hg).trans c1
    have c1' := c1
    rw [show (l.length + 1) * 2 + 1 = l.length * 2 + 2 + 1 by omega] at c1'
    clear b6 hbw5 hv5 HT5
    go_wp2_with fail
    refine (AL.out _).mono ?_; rintro e w7 ⟨rfl, b7⟩
    go_wp2
    go_ret
    exact ⟨rfl, bnext hbw6 b7⟩
end Go.Proofs.Ytogdogadejjmeaa
