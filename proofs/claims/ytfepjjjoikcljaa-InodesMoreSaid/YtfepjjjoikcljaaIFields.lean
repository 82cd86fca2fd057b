/- numberAt, fields. -/
import Derived.Test.YtfepjjjoikcljaaIFMath
import Derived.Test.YtfepjjjoikcljaaICheck
namespace Go.Proofs.Ytfepjjjoikcljaa
set_option linter.unusedVariables false
open Go.RowKit

theorem three_new (w : World) (y : Ent) (e : TypeId) : ∀ j u, [Value.int .i64 y.log, Value.int .i64 y.phys, Value.int .i64 y.len][j]? = some u → (w.alloc (.cells (entC y) e)).cell? ((⟨w.heap.size, 0, none⟩ : Addr).add j) = some u := fun j u hj => by
  rw [add_at, Nat.zero_add, World.cell?_alloc_mark]
  simpa using hj
/-- a row of triples: one more behind -/
theorem wpList_app3 {ops : Array Oper} {rest : List Oper} {o : Oper} {a : Act} {Q : Exit → Act → World → Prop} {w : World} (hgd : o.guard = none) (s x : Operand) (T e : TypeId)
    (ho : o.op = .call { callee := .builtin .append, args := #[s, x], argTypes := #[T, T] }) (ht : Try.prog.underlying T = some (.slice e)) (hinf : (Try.prog.info? e).map (fun i => (i.zero, i.size, i.bytes)) = some (some (.agg #[.int .i64 0, .int .i64 0, .int .i64 0]), 3, 24))
    (base : Nat) (v : Value) (L : List Ent) (y : Ent) (hs : a.eval s = v) (hown : w.ownsRow base e 3 v L.length (cellsE L)) (W : World) (hW : w = W.alloc (.cells (entC y) e)) (q : Nat) (hq : W.heap.size = q) (hx : a.eval x = .slice (some ⟨q, 0, none⟩) 1 1)
    (hlen : L.length ≤ 4000) (hbase : base ≤ w.heap.size)
    (h : ∀ v' w', w'.ownsRow base e 3 v' (L ++ [y]).length (cellsE (L ++ [y])) → w.grownBy w' v.ownBlock → wpList Try.prog ops Q rest (a.put o.dst v') w') : wpList Try.prog ops Q (o :: rest) a w := by
  obtain ⟨i0, hi, hz0, hz1, hz2⟩ := info_parts hinf
  subst hW
  subst hq
  refine wpList_append_own (w := W.alloc (.cells (entC y) e)) hgd s x T ho base e i0 _ 3 24 ht hi hz0 hz1 hz2 rfl (by decide) v _ _ hs hown ⟨W.heap.size, 0, none⟩ 1 1 [.int .i64 y.log, .int .i64 y.phys, .int .i64 y.len] hx rfl (three_new W y e) (fun u hu => by simp at hu; rcases hu with rfl | rfl | rfl <;> rfl) (by unfold maxLen; omega) (by omega) hbase ?_
  intro v' w' h1 h2 _
  refine h v' w' ?_ h2
  rw [List.length_append, List.length_singleton, cellsE_append]
  exact h1
theorem blk_kinds {g : Nat} {cs : Array Value} {T e : TypeId} {w w2 : World} {B n : Nat} {v : Value} {xs : List Value} {z : Nat} (h : Blk g cs T w) (ho : w.ownsRow B e z v n xs) (hT : T ≠ e) (hg : w.grownBy w2 v.ownBlock) : Blk g cs T w2 := by
  refine (hg.block g h.lt fun hk => ?_).trans h
  rcases ho.2 with ⟨rfl, -⟩ | ⟨g', cap, cur, rfl, -, hcur, -⟩
  · cases hk
  · have e1 : g = g' := by injection hk
    subst e1
    have h' : w.heap[g]? = some (.cells cs T (0, 0)) := h
    rw [h'] at hcur
    injection hcur with q
    injection q with q1 q2
    exact hT q2
theorem field_info : (Try.prog.info? 44).map (fun i => (i.zero, i.size, i.bytes)) = some (some (.agg #[.int .i64 0, .int .i64 0, .int .i64 0]), 3, 24) := by kernel_rfl
theorem entry_info : (Try.prog.info? 26).map (fun i => (i.zero, i.size, i.bytes)) = some (some (.agg #[.int .i64 0, .int .i64 0, .int .i64 0]), 3, 24) := by kernel_rfl
abbrev FldsAt (B : Nat) (v : Value) (L : List Ent) (w : World) : Prop := w.ownsRow B 44 3 v L.length (cellsE L)
theorem inumberAt_any (i j : Nat) (hi : i ≤ 100000) (hj : j ≤ 100000) (w : World) :
    Calls Try.prog 34 #[.int .i64 (i : Int), .int .i64 (j : Int)] w fun e w' => e = .returned (.int .i64 ((14 + 12 * i + 4 * j : Nat) : Int)) ∧ w = w' := by
  go_enter Try.func34, Try.ntmps34
  go_wp2
  go_ret
  exact ⟨ret_int (by omega), rfl⟩
def tri (e : Ent) (j : Nat) : Int := if j = 0 then e.log else if j = 1 then e.phys else e.len
theorem tri_cell {g : Nat} {e : Ent} {t : TypeId} {w : World} (h : Blk g (entC e) t w) {j : Nat} (hj : j < 3) : w.cell? ⟨g, j, none⟩ = some (.int .i64 (tri e j)) := by
  rw [h.cell j]
  match j, hj with
  | 0, _ => rfl | 1, _ => rfl | 2, _ => rfl
theorem tri_snoc (L : List Ent) (k : Nat) (e : Ent) {j : Nat} (hj : j < 3) : (L ++ (fdE k e).take j) ++ [fd (14 + 12 * k + 4 * j) 4 (tri e j)] = L ++ (fdE k e).take (j + 1) := by
  rw [List.append_assoc]
  congr 1
  match j, hj with
  | 0, _ => rfl
  | 1, _ => simp [fdE, tri, fd]; omega
  | 2, _ => simp [fdE, tri, fd]; omega
theorem lit6 (x : Ino) (pz : Int) (hp : pz = (pinB x.pinned : Nat)) (w : World) : FldsAt w.heap.size (.slice (some ⟨w.heap.size, 0, none⟩) 6 6) (fdK x 0)
    (w.alloc (.cells #[.int .i64 0, .int .i64 1, .int .i64 x.kind, .int .i64 1, .int .i64 1, .int .i64 pz, .int .i64 2, .int .i64 2, .int .i64 x.links, .int .i64 4, .int .i64 8, .int .i64 x.size, .int .i64 12, .int .i64 1, .int .i64 x.depth, .int .i64 13, .int .i64 1, .int .i64 (x.root.length : Int)] 44)) := by
  subst hp
  exact World.ownsRow_lit w _ 6 (Nat.le_refl _) (by unfold maxLen; omega) rfl
set_option maxRecDepth 100000 in
set_option maxHeartbeats 4000000 in
theorem ifields_any (x : Ino) (h4 : x.root.length ≤ 4) (v : Value) (w : World) (hv : EntsIn v x.root w) :
    Calls Try.prog 18 #[inoV x v] w fun e w' => ∃ v', e = .returned v' ∧ FldsAt w.heap.size v' (fdK x x.root.length) w' ∧ Below w.heap.size w w' := by
  obtain ⟨ad, cap, rfl, c1, c2, c3, -⟩ := entsIn_cells hv
  have H3 := Lib.hid c3
  have NA := Lib.hid inumberAt_any
  have hb0 := balloc1 w (.cells (inoC x (.slice ad x.root.length cap)) 24)
  have hx0 : InoAt w.heap.size x (.slice ad x.root.length cap) (w.alloc (.cells (inoC x (.slice ad x.root.length cap)) 24)) := Blk.new _ _ w
  have hz0 := size_alloc w (.cells (inoC x (.slice ad x.root.length cap)) 24)
  have HSUC := Lib.hid fun k (hk : k < x.root.length) => fdK_succ x hk
  have HLEN := Lib.hid fun k (hk : k ≤ x.root.length) => fdK_length x hk
  clear c3 hv
  have REST : ∀ pz : Int, pz = (pinB x.pinned : Nat) → FldsAt (w.heap.size + 1) (.slice (some ⟨w.heap.size + 1, 0, none⟩) 6 6) (fdK x 0)
    ((w.alloc (.cells (inoC x (.slice ad x.root.length cap)) 24)).alloc (.cells #[.int .i64 0, .int .i64 1, .int .i64 x.kind, .int .i64 1, .int .i64 1, .int .i64 pz, .int .i64 2, .int .i64 2, .int .i64 x.links, .int .i64 4, .int .i64 8, .int .i64 x.size, .int .i64 12, .int .i64 1, .int .i64 x.depth, .int .i64 13, .int .i64 1, .int .i64 (x.root.length : Int)] 44)) := fun pz hp => by
    have := lit6 x pz hp (w.alloc (.cells (inoC x (.slice ad x.root.length cap)) 24))
    rw [hz0] at this; exact this
  obtain ⟨kd, pn, lk, sz, dp, rt⟩ := x
  dsimp only at *
  have hpn : (pn = true ∨ pn = false) := by cases pn <;> simp
  rcases hpn with rfl | rfl
  all_goals
    first
    | have HR0 := Lib.hid (REST 1 rfl)
      have HB0 := Lib.hid (balloc hb0 (.cells #[.int .i64 0, .int .i64 1, .int .i64 kd, .int .i64 1, .int .i64 1, .int .i64 1, .int .i64 2, .int .i64 2, .int .i64 lk, .int .i64 4, .int .i64 8, .int .i64 sz, .int .i64 12, .int .i64 1, .int .i64 dp, .int .i64 13, .int .i64 1, .int .i64 (rt.length : Int)] 44))
    | have HR0 := Lib.hid (REST 0 rfl)
      have HB0 := Lib.hid (balloc hb0 (.cells #[.int .i64 0, .int .i64 1, .int .i64 kd, .int .i64 1, .int .i64 1, .int .i64 0, .int .i64 2, .int .i64 2, .int .i64 lk, .int .i64 4, .int .i64 8, .int .i64 sz, .int .i64 12, .int .i64 1, .int .i64 dp, .int .i64 13, .int .i64 1, .int .i64 (rt.length : Int)] 44))
    clear REST hx0 hb0 hz0
    generalize fdK _ = FK at *
    go_enter Try.func18, Try.ntmps18
    go_wp2
    go_loopw [4, 33] (fun vl q wr => ∃ k : Nat, q = .int .i64 k ∧ k ≤ rt.length ∧ FldsAt (w.heap.size + 1) vl (FK k) wr ∧ Below w.heap.size w wr) (fun _ q _ => rt.length - (intOf q).toNat)
    case atStart => exact ⟨0, rfl, Nat.zero_le _, HR0.out, HB0.out⟩
    case round =>
      clear HR0 HB0
      obtain ⟨k, rfl, hk, hR, hb⟩ := hrel
      by_cases hlt : k < rt.length
      · obtain ⟨g, o, rfl, hg, hc⟩ := H3.out (by omega)
        obtain ⟨x1, x2, x3⟩ := hc wr hb k hlt
        have HSK := Lib.hid (HSUC.out k hlt)
        have hlk := HLEN.out k hk
        have hb1 := balloc (balloc hb (.cells (entC (eat rt k)) 26)) (.cells (entC (eat rt k)) 3)
        have hR1 := (hR.alloc (.cells (entC (eat rt k)) 26)).alloc (.cells (entC (eat rt k)) 3)
        have hT1 : Blk (wr.heap.size + 1) (entC (eat rt k)) 3 ((wr.alloc (.cells (entC (eat rt k)) 26)).alloc (.cells (entC (eat rt k)) 3)) := by
          have := Blk.new (entC (eat rt k)) 3 (wr.alloc (.cells (entC (eat rt k)) 26))
          rw [size_alloc] at this; exact this
        have HTS := Lib.hid fun j (hj : j < 3) => tri_snoc (FK k) k (eat rt k) hj
        have HT0 : Hid (FK k ++ (fdE k (eat rt k)).take 0 = FK k) := Lib.hid (by simp)
        have HT3 : Hid (FK k ++ (fdE k (eat rt k)).take 3 = FK (k + 1)) := Lib.hid (by rw [HSK.out]; rfl)
        have HTL : Hid (∀ j, j ≤ 3 → (FK k ++ (fdE k (eat rt k)).take j).length ≤ 4000) := Lib.hid fun j hj => by rw [List.length_append, List.length_take, hlk]; omega
        have HTC := Lib.hid fun (wz : World) (h : Blk (wr.heap.size + 1) (entC (eat rt k)) 3 wz) j (hj : j < 3) => tri_cell h hj
        obtain ⟨FJ, hFJ⟩ : ∃ FJ : Nat → List Ent, FJ = fun j => FK k ++ (fdE k (eat rt k)).take j := ⟨_, rfl⟩
        have hFJ' : ∀ j, FK k ++ (fdE k (eat rt k)).take j = FJ j := fun j => by rw [hFJ]
        simp only [hFJ'] at HTS HT0 HT3 HTL
        have HR1 : Hid (FldsAt (w.heap.size + 1) _ (FJ 0) _) := Lib.hid (by rw [HT0.out]; exact hR1)
        have HB1 := Lib.hid hb1
        have HT1 := Lib.hid hT1
        clear hc hR hb hR1 hb1 hT1 hFJ hFJ' HT0 HSK hlk
        generalize eat rt k = yk at *
        generalize tri yk = TR at *
        obtain ⟨ya, yp, yz⟩ := yk
        dsimp only at *
        go_wp2
        go_loopw [4, 46] (fun vl q wz => ∃ j : Nat, q = .int .i64 j ∧ j ≤ 3 ∧ FldsAt (w.heap.size + 1) vl (FJ j) wz ∧ Blk (wr.heap.size + 1) (entC ⟨ya, yp, yz⟩) 3 wz ∧ Below w.heap.size w wz) (fun _ q _ => 3 - (intOf q).toNat)
        case atStart => exact ⟨0, rfl, Nat.zero_le _, HR1.out, HT1.out, HB1.out⟩
        case round =>
          clear HR1 HT1 HB1 x1 x2 x3
          obtain ⟨j, rfl, hj, hR, hT, hb⟩ := hrel
          by_cases hj3 : j < 3
          · have q1 := HTC.out _ hT j hj3
            have hlj := HTL.out j hj
            have hts := HTS.out j hj3
            have HT := Lib.hid hT
            have hsz := hb.size
            have HB := Lib.hid hb
            have HRw := Lib.hid hR
            clear hT hb hR
            go_wp2_with fail
            refine (NA.out k j (by omega) (by omega) _).mono ?_; rintro e w5 ⟨rfl, rfl⟩
            go_wp2_with (at_builtin; refine wpList_app3 rfl _ _ 41 44 rfl Try.underlying41 field_info (w.heap.size + 1) _ (FJ j) (fd (14 + 12 * k + 4 * j) 4 (TR j)) rfl (HRw.out.alloc _) _ rfl _ rfl rfl hlj (by rw [size_alloc]; omega) ?_)
            intro v' w6 h6 g6
            have hT6 := blk_kinds (HT.out.kept1 (balloc1 _ _)) (HRw.out.alloc _) (by decide) g6
            have hb6 := (balloc HB.out _).trans ((below_of_row (HRw.out.alloc _) g6 (by rw [size_alloc]; omega)).mono (Nat.le_succ _))
            clear g6 HRw HB HT q1 hts
            go_wp2
            exact ⟨⟨j + 1, by go_num, by omega, h6, hT6, hb6⟩, by simp [intOf]; omega⟩
          · obtain rfl : j = 3 := by omega
            have h3 := HT3.out
            rw [h3] at hR
            clear hT
            go_wp2
            exact ⟨⟨k + 1, by go_num, by omega, hR, hb⟩, by simp [intOf]; omega⟩
      · obtain rfl : k = rt.length := by omega
        have hR := row_down (show w.heap.size ≤ w.heap.size + 1 by omega) hR
        go_wp2
        go_ret
        exact ⟨_, rfl, hR, hb⟩
end Go.Proofs.Ytfepjjjoikcljaa
