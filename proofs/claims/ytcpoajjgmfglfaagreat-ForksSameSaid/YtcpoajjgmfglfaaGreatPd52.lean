import Derived.Test.YtcpoajjgmfglfaaGreatPd50
import Derived.Test.YtcpoajjgmfglfaaGreatPd01
import Derived.Test.YtcpoajjgmfglfaaGreatPd26
import Derived.Test.YtcpoajjgmfglfaaGreatPd24
import Derived.Deep.CutBlock
import Derived.Deep.DeepCutAuto
set_option linter.unusedVariables false
set_option linter.unusedSimpArgs false
set_option linter.constructorNameAsVariable false
/- What a law needs of a Replace: its end in one shape; two funcs that tell fresh blocks; great. -/
namespace Go.Proofs.YtcpoajjgmfglfaaGreat
set_option linter.unusedVariables false
set_option linter.unusedSimpArgs false
open Go.RowKit

abbrev RpR : Type := Except Int (Shp × Shp)
def dpR : RpR → Int | .ok x => ((x.2.length - 1 : Nat) : Int) | .error _ => 0
def rtR : RpR → List Ent | .ok x => rootA x.2 | .error _ => []
def chR : RpR → List Ch | .ok x => chgA (blocksA x.1) (blocksA x.2) | .error _ => []
def frR : RpR → List Int | .ok x => freeA (blocksA x.1) (blocksA x.2) | .error _ => []
def ecR : RpR → Int | .ok _ => 0 | .error c => c
theorem root_le {T : Shp} (h : TellOk T) : (rootA T).length ≤ 1000000 := by
  have h1 := (h.small.2 (T.length - 1)).2
  unfold rootA
  cases hx : (rowA T (T.length - 1))[0]? with
  | none => simp
  | some x =>
    have hm : x ∈ rowA T (T.length - 1) := List.mem_of_getElem? hx
    have := (List.sublist_flatten_of_mem hm).length_le
    show x.length ≤ _
    omega
def lenR (a : RpR) : Prop := (rtR a).length ≤ 1000000 ∧ (chR a).length ≤ 1000000 ∧ (frR a).length ≤ 1000000
theorem len_ok {S T : Shp} (hS : TellOk S) (hT : TellOk T) : lenR (.ok (S, T)) := by
  refine ⟨root_le hT, ?_, ?_⟩
  · show (chgA (blocksA S) (blocksA T)).length ≤ _
    have h1 : (chgA (blocksA S) (blocksA T)).length ≤ (blocksA T).length := List.length_filter_le _ _
    have h2 : (blocksA T).length = (blkTo T T.length).length := sortC_len _
    have := hT.len
    omega
  · show (freeA (blocksA S) (blocksA T)).length ≤ _
    have h1 : (freeA (blocksA S) (blocksA T)).length ≤ (blocksA S).length := by
      unfold freeA; rw [List.length_map]; exact List.length_filter_le _ _
    have h2 : (blocksA S).length = (blkTo S S.length).length := sortC_len _
    have := hS.len
    omega
theorem set_one {σ : Type} {C : Nat} {I : σ → World → Prop} {a : RpR × σ} {w : World} {e : Ending} {w' : World} (h : SetEndN C I a w e w') :
    ∃ vr vc vf, e = .returned (.tuple #[setV (dpR a.1) vr vc vf, .int .i64 (ecR a.1)]) ∧ EntsAt w.heap.size vr (rtR a.1) w' ∧ ChgsOwn w.heap.size vc (chR a.1) w' ∧ IntsFk w.heap.size vf (frR a.1) w' ∧ Turns noTree C w w' ∧ I a.2 w' ∧ lenR a.1 := by
  unfold SetEndN at h
  obtain ⟨a1, a2⟩ := a
  obtain ⟨h1, h2, h3⟩ := h
  cases a1 with
  | ok x =>
    obtain ⟨S, T⟩ := x
    obtain ⟨⟨t1, t2⟩, vr, vc, vf, rfl, k1, k2, k3⟩ := h3
    exact ⟨vr, vc, vf, rfl, k1, k2, k3, h1, h2, len_ok t1 t2⟩
  | error c =>
    obtain ⟨rfl, -⟩ := h3
    exact ⟨_, _, _, rfl, World.ownsRow_nil _ _ _ _, World.ownsRow_nil _ _ _ _, World.ownsRow_nil _ _ _ _, h1, h2, Nat.zero_le _, Nat.zero_le _, Nat.zero_le _⟩
/-- all blocks but those that are a func's own stay -/
theorem Freshes.all {σ : Type} {nx : Nx σ} {fv : Value} {go : σ → Prop} {I : σ → World → Prop} {C B : Nat} (h : Freshes nx fv go I C B) (w0 : World) (hB : B ≤ w0.heap.size) :
    Freshes nx fv go (fun s W => I s W ∧ ∀ k, B ≤ k → k < w0.heap.size → W.heap[k]? = w0.heap[k]?) C w0.heap.size := by
  refine ⟨h.val, fun T hT s v w hgo hB2 hI hv => ?_, fun s W W' hB2 hI hb => ⟨h.keep s W W' (by omega) hI.1 (hb.mono hB), fun k h1 h2 => (hb.block k h2).trans (hI.2 k h1 h2)⟩, h.next⟩
  refine (h.ask T hT s v w hgo (by omega) hI.1 (row_down hB hv)).mono ?_
  rintro e w' ⟨rfl, k1, k2, k3⟩
  exact ⟨rfl, ⟨k1, fun k j1 j2 => (k3 k j1 (by omega)).trans (hI.2 k j1 j2)⟩, k2, fun k j1 j2 => k3 k (by omega) j2⟩
/-- a Replace that is told its fresh blocks: nothing of what was there turns but the block of the func that tells -/
theorem replace_told (A X : Nat) (vf : Value) (F : List Int) (hF : F.length ≤ 1000) (hfF : ∀ b ∈ F, I64 b) (p q g : Nat) (Fd : Nat → ByteArray) (hsz : ∀ k, (Fd k).size ≤ 1000) (bad : Int) (W : World) (hrd : RdrAt p q g Fd bad W) (dp : Int) (hdp : I64 dp) (root : List Ent) (hfr : fitE root) (vt : Value) (hvt : EntsIn vt root W) (hroot : EntsS X vt root W)
    (a t : Int) (ha : I64 a) (ht : I64 t) (L : List Ent) (hfL : fitE L) (hL : L.length ≤ 4000) (vl : Value) (hvl : EntsIn vl L W) (hI : ToldI A X vf F 0 W) :
    Calls Tryz.prog 28 #[.agg #[.int .i64 dp, vt], .func (.func 49) #[] (rdrC p q), .int .i64 a, .int .i64 t, vl, .func (.func 29) #[.pointer (some ⟨X, 0, none⟩)] #[]] W
      fun e W' => ∃ vr vc vf', e = .returned (.tuple #[setV (dpR (replN (toldN F) (rdOf Fd bad) dp root a t L 0).1) vr vc vf', .int .i64 (ecR (replN (toldN F) (rdOf Fd bad) dp root a t L 0).1)]) ∧ EntsAt W.heap.size vr (rtR (replN (toldN F) (rdOf Fd bad) dp root a t L 0).1) W' ∧ ChgsOwn W.heap.size vc (chR (replN (toldN F) (rdOf Fd bad) dp root a t L 0).1) W' ∧ IntsFk W.heap.size vf' (frR (replN (toldN F) (rdOf Fd bad) dp root a t L 0).1) W' ∧
        ToldI A X vf F (replN (toldN F) (rdOf Fd bad) dp root a t L 0).2 W' ∧ W.grownBy W' (some X) ∧ lenR (replN (toldN F) (rdOf Fd bad) dp root a t L 0).1 := by
  have hX := hI.b.lt
  have fr := (told_fresh A X vf F hF hfF).all W (by omega)
  refine (fkreplace_any (toldN F) _ _ _ X W.heap.size fr (by omega) _ (rdrC p q) (rdOf Fd bad) W (Nat.le_refl _) (hrd.reads hsz) dp hdp root hfr vt hvt hroot a t ha ht L hfL hL vl hvl 0 (Nat.zero_le _) ⟨hI, fun k _ _ => rfl⟩).mono ?_
  intro e W' he
  obtain ⟨vr, vc, vf', rfl, k1, k2, k3, k4, ⟨k5, k6⟩, k7⟩ := set_one he
  refine ⟨vr, vc, vf', rfl, k1, k2, k3, k5, ⟨k4.os, k4.tape, k4.output, k4.size, fun k hk hne => ?_⟩, k7⟩
  rcases Nat.lt_or_ge X k with h1 | h1
  · exact k6 k h1 hk
  · rcases k4.block k hk with e | ⟨e, -⟩
    · exact e
    · exact absurd (show some k = some X by congr 1; omega) hne
/-- more than is gone through -/
def greatB (d : List Ch) (r : List Ent) : Bool := decide (300 < d.length) || decide (100 < r.length) || d.any fun c => decide (1000 < c.2.size)
theorem great_no {d : List Ch} {r : List Ent} (h : greatB d r = false) : d.length ≤ 300 ∧ r.length ≤ 100 ∧ ∀ c ∈ d, c.2.size ≤ 1000 := by
  unfold greatB at h
  simp only [Bool.or_eq_false_iff, decide_eq_false_iff_not, List.any_eq_false, decide_eq_true_eq] at h
  exact ⟨by omega, by omega, fun c hc => by have := h.2 c hc; omega⟩
set_option maxRecDepth 100000 in
set_option maxHeartbeats 4000000 in
theorem lgreat_any (d : List Ch) (hd : ∀ c ∈ d, c.2.size ≤ maxLen) (bad : Int) (r : List Ent) (v u : Value) (w : World) (hv : ChgsIn v d w) (hu : EntsIn u r w) :
    Calls Tryz.prog 17 #[.agg #[v, .int .i64 bad], u] w fun e w' => e = .returned (.bool (greatB d r)) ∧ Below w.heap.size w w' := by
  have hms : maxLen = 9223372036854775807 := rfl
  obtain ⟨ad, cap, rfl, hcap1, hcap2, hcell⟩ := hv.open
  obtain ⟨ar, cr, rfl, -⟩ := entsIn_cells hu
  have hb0 := balloc1 w (.cells #[.slice ad d.length cap, .int .i64 bad] 38)
  have hk0 := Blk.new #[.slice ad d.length cap, .int .i64 bad] 38 w
  have HC := Lib.hid hcell
  have HDZ := Lib.hid hd
  obtain ⟨w1, hw1⟩ : ∃ W, w.alloc (.cells #[.slice ad d.length cap, .int .i64 bad] 38) = W := ⟨_, rfl⟩
  rw [hw1] at hb0 hk0
  have c0 := hk0.cell 0
  simp only [List.getElem?_toArray, List.getElem?_cons_zero] at c0
  have HB0 := Lib.hid hb0
  have HK0 := Lib.hid hk0
  have HW1 := Lib.hid hw1
  clear hv hu hcell hd hms hb0 hk0 hw1
  by_cases h1 : 300 < d.length
  · have d1 : decide ((300 : Int) < (d.length : Int)) = true := decide_eq_true (by omega)
    have HR : Hid (greatB d r = true) := Lib.hid (by unfold greatB; rw [decide_eq_true h1]; rfl)
    rw [HR.out]
    clear h1
    go_enter Tryz.func17, Tryz.ntmps17
    go_upto_region 1 with fail
    rw [HW1.out]
    go_wp2
    go_ret
    exact ⟨rfl, HB0.out⟩
  have d1 : decide ((300 : Int) < (d.length : Int)) = false := decide_eq_false (by omega)
  by_cases h2 : 100 < r.length
  · have d2 : decide ((100 : Int) < (r.length : Int)) = true := decide_eq_true (by omega)
    have HR : Hid (greatB d r = true) := Lib.hid (by unfold greatB; rw [decide_eq_true h2]; simp)
    rw [HR.out]
    clear h1 h2
    go_enter Tryz.func17, Tryz.ntmps17
    go_upto_region 1 with fail
    rw [HW1.out]
    go_wp2
    go_ret
    exact ⟨rfl, HB0.out⟩
  have d2 : decide ((100 : Int) < (r.length : Int)) = false := decide_eq_false (by omega)
  have HNO : Hid ((∀ j (hj : j < d.length), ¬ 1000 < (d[j]).2.size) → greatB d r = false) := Lib.hid fun h => by
    unfold greatB
    rw [decide_eq_false h1, decide_eq_false h2]
    simp only [Bool.false_or, List.any_eq_false, decide_eq_true_eq]
    intro c hc
    obtain ⟨j, hj, rfl⟩ := List.mem_iff_getElem.1 hc
    exact h j hj
  have HYES : Hid (∀ j (hj : j < d.length), 1000 < (d[j]).2.size → greatB d r = true) := Lib.hid fun j hj h => by
    unfold greatB
    have : d.any (fun c => decide (1000 < c.2.size)) = true := List.any_eq_true.2 ⟨d[j], List.getElem_mem hj, decide_eq_true h⟩
    rw [this]; simp
  clear h1 h2
  go_enter Tryz.func17, Tryz.ntmps17
  go_upto_region 1 with fail
  rw [HW1.out]
  clear HW1 c0
  have c0 := HK0.out.cell 0
  simp only [List.getElem?_toArray, List.getElem?_cons_zero] at c0
  go_wp2
  go_loopw [5] (fun q wr => ∃ k : Nat, q = .int .i64 (k : Int) ∧ k ≤ d.length ∧ Hid (∀ j (hj : j < d.length), j < k → ¬ 1000 < (d[j]).2.size) ∧ wr = w1) (fun q _ => d.length - (intOf q).toNat)
  case atStart => exact ⟨0, rfl, Nat.zero_le _, Lib.hid (fun j _ h => by omega), rfl⟩
  case round =>
    obtain ⟨k, rfl, hk, HJ, rfl⟩ := hrel
    by_cases hlt : k < d.length
    · obtain ⟨g, o, rfl, hg, hcc⟩ := HC.out (by omega)
      obtain ⟨-, e2⟩ := hcc k hlt
      have e3 := (HB0.out.cell (p := ⟨g, o + k * 2 + 1, none⟩) hg).trans e2
      have hz := HDZ.out d[k] (List.getElem_mem hlt)
      have hms : maxLen = 9223372036854775807 := rfl
      have HY := Lib.hid (HYES.out k hlt)
      have HJK : Hid (¬ 1000 < (d[k]).2.size → ∀ j (hj : j < d.length), j < k + 1 → ¬ 1000 < (d[j]).2.size) := Lib.hid fun h j hj hjk => by
        by_cases e : j = k
        · subst e; exact h
        · exact HJ.out j hj (by omega)
      generalize d[k].2 = s at *
      clear hcc e2
      by_cases hs : 1000 < s.size
      · have d3 : decide ((1000 : Int) < (s.size : Int)) = true := decide_eq_true (by omega)
        have HR := Lib.hid (HY.out hs)
        clear hs
        go_wp2
        go_ret
        exact ⟨ret_bool HR.out.symm, HB0.out⟩
      · have d3 : decide ((1000 : Int) < (s.size : Int)) = false := decide_eq_false (by omega)
        have HJ2 := Lib.hid (HJK.out hs)
        clear hs
        go_wp2
        exact ⟨⟨k + 1, by go_num, by omega, HJ2, trivial⟩, by simp [intOf]; omega⟩
    · obtain rfl : k = d.length := by omega
      have HR := Lib.hid (HNO.out fun j hj => HJ.out j hj hj)
      go_wp2
      go_ret
      exact ⟨ret_bool HR.out.symm, HB0.out⟩
end Go.Proofs.YtcpoajjgmfglfaaGreat

/- Append of a row of whatever elements. -/
namespace Go.Proofs.YtcpoajjgmfglfaaGreat
set_option linter.unusedVariables false
open Go.RowKit

theorem wpList_appG {ops : Array Oper} {rest : List Oper} {o : Oper} {a : Act} {Q : Exit → Act → World → Prop} {w : World} (hgd : o.guard = none) (s x : Operand) (T e : TypeId)
    (ho : o.op = .call { callee := .builtin .append, args := #[s, x], argTypes := #[T, T] }) (ht : Tryz.prog.underlying T = some (.slice e)) (z : Value) (sz bytes : Nat) (hinf : (Tryz.prog.info? e).map (fun i => (i.zero, i.size, i.bytes)) = some (some z, sz, bytes)) (hzs : z.cells.size = sz) (hsz : 0 < sz) (hby : bytes ≤ 64)
    (base : Nat) (v : Value) (n : Nat) (xs : List Value) (hs : a.eval s = v) (hown : w.ownsRow base e sz v n xs) (u : Value) (m : Nat) (cs : List Value) (hx : a.eval x = u) (hu : RowIn sz u m cs w) (h1 : ∀ y ∈ cs, y.oneCell' = true)
    (hlen : n + m ≤ 4000000) (hbase : base ≤ w.heap.size)
    (h : ∀ v' w', w'.ownsRow base e sz v' (n + m) (xs ++ cs) → w.grownBy w' v.ownBlock → wpList Tryz.prog ops Q rest (a.put o.dst v') w') : wpList Tryz.prog ops Q (o :: rest) a w := by
  obtain ⟨i0, hi, hz0, hz1, hz2⟩ := info_parts hinf
  obtain ⟨h0, ad, cap, rfl, a1, a2, a3, a4⟩ := hu
  have hbyt : (n + m) * bytes ≤ 140737488355328 := by
    have : (n + m) * bytes ≤ 4000000 * 64 := Nat.mul_le_mul hlen hby
    omega
  cases ad with
  | none =>
    have hc := a4 rfl
    subst hc
    have hm : m = 0 := by omega
    subst hm
    have hcs : cs = [] := List.eq_nil_of_length_eq_zero (by rw [h0, Nat.zero_mul])
    subst hcs
    refine wpList_append_own_none hgd s x T ho base e i0 sz ht hi v _ _ hs hown hx (h v w ?_ ⟨rfl, rfl, rfl, Nat.le_refl _, fun _ _ _ => rfl⟩)
    rw [List.append_nil]; exact hown
  | some ad =>
    have hnews : ∀ j y, cs[j]? = some y → w.cell? (ad.add j) = some y := by
      intro j y hj
      have hlt := (List.getElem?_eq_some_iff.1 hj).1
      obtain ⟨g, o, e, _, hc⟩ := a3 (by omega)
      cases e
      rw [add_at]; exact hc j y hj
    exact wpList_append_own w hgd s x T ho base e i0 z sz bytes ht hi hz0 hz1 hz2 hzs hsz v _ _ hs hown ad m cap cs hx h0 hnews h1 (by unfold maxLen; omega) hbyt hbase fun v' w' k1 k2 _ => h v' w' k1 k2
theorem row_of_own {B z n : Nat} {e : TypeId} {v : Value} {xs : List Value} {w : World} (h : w.ownsRow B e z v n xs) : RowIn z v n xs w := by
  obtain ⟨ad, cap, rfl, h1, h2, h3⟩ := shape_of h
  rcases h.2 with ⟨e1, e2⟩ | ⟨g, cap', cur, e1, hb, hg, hr⟩
  · cases e1
    have : xs = [] := List.eq_nil_of_length_eq_zero (by have := h.1; rw [this, e2, Nat.zero_mul])
    subst this
    exact RowIn.nil z w
  · cases e1
    refine ⟨h.1, some ⟨g, 0, none⟩, cap, rfl, h1, h2, fun hp => ⟨g, 0, rfl, lt_of_block hg, fun k u hk => ?_⟩, fun e => by cases e⟩
    have hl := (List.getElem?_eq_some_iff.1 hk).1
    rw [Nat.zero_add, h.cellAt k (by have := h.1; omega)]; exact hk
/-- an empty literal -/
theorem lit0 (w : World) (e : TypeId) (sz : Nat) : (w.alloc (.cells #[] e)).ownsRow w.heap.size e sz (.slice (some ⟨w.heap.size, 0, none⟩) 0 0) 0 [] :=
  World.ownsRow_lit (e := e) (size := sz) w #[] 0 (Nat.le_refl _) (by unfold maxLen; omega) (by rw [Nat.zero_mul]; rfl)
theorem chg_one' (L : List Ch) : ∀ y ∈ chgsL L, y.oneCell' = true := by
  intro y hy
  unfold chgsL at hy
  obtain ⟨c, -, hc⟩ := List.mem_flatMap.1 hy
  simp at hc
  rcases hc with rfl | rfl <;> rfl
theorem int_one' (L : List Int) : ∀ y ∈ L.map (Value.int .i64), y.oneCell' = true := by
  intro y hy
  obtain ⟨c, -, rfl⟩ := List.mem_map.1 hy; rfl
theorem lint_info : (Tryz.prog.info? 3).map (fun i => (i.zero, i.size, i.bytes)) = some (some (.int .i64 0), 1, 8) := by kernel_rfl
theorem blk_grown {g : Nat} {cs : Array Value} {T : TypeId} {w w' : World} {row : Option Nat} (h : Blk g cs T w) (hg : w.grownBy w' row) (hne : some g ≠ row) : Blk g cs T w' := (hg.block g h.lt hne).trans h
theorem ty_ne {B z n g : Nat} {e t : TypeId} {v : Value} {xs : List Value} {w : World} (h : w.ownsRow B e z v n xs) (hg : TyAt g t w) (hne : t ≠ e) : some g ≠ v.ownBlock := fun q => hne (ty_one hg (own_ty h q.symm).1)
theorem rows_ne {B B' z z' n n' : Nat} {e e' : TypeId} {v v' : Value} {xs xs' : List Value} {w : World} (h : w.ownsRow B e z v n xs) (h' : w.ownsRow B' e' z' v' n' xs') (hne : e ≠ e') : ∀ q, v.ownBlock = some q → some q ≠ v'.ownBlock := fun q hq k => hne (ty_one (own_ty h hq).1 (own_ty h' k.symm).1)
/-- rows of which one was made later -/
theorem rows_later {B B' z z' n n' : Nat} {e e' : TypeId} {v v' : Value} {xs xs' : List Value} {w w' : World} (h : w'.ownsRow B e z v n xs) (h' : w.ownsRow B' e' z' v' n' xs') (hB : w.heap.size ≤ B) : ∀ q, v.ownBlock = some q → some q ≠ v'.ownBlock := fun q hq k => by
  have h1 := (own_ty h hq).2.2
  have h2 := (own_ty h' k.symm).2.1
  omega
theorem grown_below {B : Nat} {w w' : World} {row : Option Nat} (hg : w.grownBy w' row) (hB : B ≤ w.heap.size) (hr : ∀ q, row = some q → B ≤ q) : Below B w w' :=
  ⟨hg.os, hg.tape, hg.output, hg.size, fun k hk => hg.block k (by omega) fun e => by have := hr k e.symm; omega⟩
theorem ToldI.grownR {A X : Nat} {vl : Value} {L : List Int} {s : Nat} {W W' : World} {row : Option Nat} (h : ToldI A X vl L s W) (g : W.grownBy W' row) (hY : ∀ q, row = some q → A ≤ q) (hne : some X ≠ row) : ToldI A X vl L s W' :=
  have hl : A ≤ W.heap.size := by have := h.le; have := h.b.lt; omega
  ⟨(g.block X h.b.lt hne).trans h.b, fun W'' hb => h.l W'' ((grown_below g hl hY).trans hb), h.le⟩
end Go.Proofs.YtcpoajjgmfglfaaGreat

/- ForksSame, walked. -/
namespace Go.Proofs.YtcpoajjgmfglfaaGreat
set_option linter.unusedVariables false
set_option linter.unusedSimpArgs false
open Go.RowKit

theorem set_sz : (Tryz.prog.info? 58).map (·.size) = some 4 := by kernel_rfl
/-- three blocks at a law's start -/
theorem three_start (w : World) (A B C : Array Value) (ta tb tc : TypeId) : ∃ W, ((w.alloc (.cells A ta)).alloc (.cells B tb)).alloc (.cells C tc) = W ∧
    Below w.heap.size w W ∧ W.heap.size = w.heap.size + 3 ∧ Blk w.heap.size A ta W ∧ Blk (w.heap.size + 1) B tb W ∧ Blk (w.heap.size + 1 + 1) C tc W := by
  have b1 := balloc1 w (.cells A ta)
  have k1 := Blk.new A ta w
  have z1 := size_alloc w (.cells A ta)
  generalize w.alloc (.cells A ta) = w1 at *
  have b2 := balloc1 w1 (.cells B tb)
  have k2 := Blk.new B tb w1
  have z2 := size_alloc w1 (.cells B tb)
  generalize w1.alloc (.cells B tb) = w2 at *
  have b3 := balloc1 w2 (.cells C tc)
  have k3 := Blk.new C tc w2
  have z3 := size_alloc w2 (.cells C tc)
  generalize w2.alloc (.cells C tc) = w3 at *
  rw [z1] at k2; rw [z2, z1] at k3
  exact ⟨w3, rfl, bnext (bnext b1 b2) b3, by omega, k1.kept1 (bnext b2 b3), k2.kept1 b3, k3⟩
set_option maxRecDepth 100000 in
set_option maxHeartbeats 16000000 in
theorem fsame_walk (dp : Int) (hdp : I64 dp) (root : List Ent) (hfr : fitE root) (vt : Value) (d : List Ch) (hfd : ∀ c ∈ d, I64 c.1 ∧ c.2.size ≤ maxLen) (bad : Int) (vd : Value) (a t : Int) (ha : I64 a) (ht : I64 t) (L : List Ent) (hfL : fitE L) (F : List Int) (hfF : ∀ x ∈ F, I64 x) (vl vf : Value) (w : World)
    (hvt : EntsIn vt root w) (hvd : ChgsIn vd d w) (hvl : EntsIn vl L w) (hvf : IntsR vf F w) :
    Calls Tryz.prog 6 #[.agg #[.int .i64 dp, vt], .agg #[vd, .int .i64 bad], .agg #[.int .i64 a, .int .i64 t, vl, vf]] w fun e w' => e = .returned (.bool true) ∧ Below w.heap.size w w' := by
  have mixed : Tryz.prog.follows .mixedOrders = true := by kernel_rfl
  obtain ⟨at', ct, rfl, -⟩ := entsIn_cells hvt
  obtain ⟨ad, cd, rfl, -⟩ := hvd.open
  obtain ⟨al, cl, rfl, -⟩ := entsIn_cells hvl
  obtain ⟨af, cf, rfl, hf1, hf2, -⟩ := hvf.shape
  obtain ⟨W3, hW3, hb3, hz3, kt, kd, ko⟩ := three_start w #[.int .i64 dp, .slice at' root.length ct] #[.slice ad d.length cd, .int .i64 bad] #[.int .i64 a, .int .i64 t, .slice al L.length cl, .slice af F.length cf] 35 38 65
  have GR := Lib.hid (lgreat_any d (fun c hc => (hfd c hc).2) bad root _ _ W3 (hvd.kept hb3) (hvt.kept hb3))
  have HB3 := Lib.hid hb3
  have HT := Lib.hid kt
  have HD := Lib.hid kd
  have HO := Lib.hid ko
  have HVT := Lib.hid hvt
  have HVD := Lib.hid hvd
  have HVL := Lib.hid hvl
  have HVF := Lib.hid hvf
  have HW3 := Lib.hid hW3
  have x0 := kt.cell 0
  have x1 := kt.cell 1
  have y0 := kd.cell 0
  have y1 := kd.cell 1
  have o0 := ko.cell 0
  have o1 := ko.cell 1
  have o2 := ko.cell 2
  have o3 := ko.cell 3
  simp only [List.getElem?_toArray, List.getElem?_cons_zero, List.getElem?_cons_succ] at x0 x1 y0 y1 o0 o1 o2 o3
  clear hb3 kt kd ko hvt hvd hvl hvf hW3
  go_enter Tryz.func6, Tryz.ntmps6
  go_upto_region 1 with fail
  rw [HW3.out]
  go_wp2_with fail
  refine GR.out.mono ?_; rintro e w4 ⟨rfl, b4⟩
  have HB4 := Lib.hid (bnext HB3.out b4)
  have HC4 := Lib.hid b4
  cases hgb : greatB d root with
  | true =>
    clear b4 hgb
    go_wp2
    go_ret
    exact ⟨rfl, HB4.out⟩
  | false =>
    obtain ⟨hd3, hr1, hd1⟩ := great_no hgb
    have ko := HO.out.kept1 b4
    have o2 := ko.cell 2
    have o3 := ko.cell 3
    simp only [List.getElem?_toArray, List.getElem?_cons_zero, List.getElem?_cons_succ] at o2 o3
    by_cases h60 : 60 < L.length
    · have d60 : decide ((60 : Int) < (L.length : Int)) = true := decide_eq_true (by omega)
      clear b4 hgb ko h60
      go_wp2
      go_ret
      exact ⟨rfl, HB4.out⟩
    have d60 : decide ((60 : Int) < (L.length : Int)) = false := decide_eq_false (by omega)
    by_cases h100 : 100 < F.length
    · have d100 : decide ((100 : Int) < (F.length : Int)) = true := decide_eq_true (by omega)
      clear b4 hgb ko h60 h100
      go_wp2
      go_ret
      exact ⟨rfl, HB4.out⟩
    have d100 : decide ((100 : Int) < (F.length : Int)) = false := decide_eq_false (by omega)
    have BL := Lib.hid (lblocks_any d (by omega) (fun c hc => (hfd c hc).1) bad _ w4 (HVD.out.kept HB4.out))
    have hsz : ∀ k, (dskF d k).size ≤ 1000 := dskF_size hd1
    have HSZ := Lib.hid hsz
    have y0 := (HD.out.kept1 b4).cell 0
    have y1 := (HD.out.kept1 b4).cell 1
    simp only [List.getElem?_toArray, List.getElem?_cons_zero, List.getElem?_cons_succ] at y0 y1
    clear b4 hgb ko hsz hd1 x0 x1 o0 o1
    go_wp2_with fail
    refine BL.out.mono ?_; rintro e w5 ⟨g, rfl, hg, hdk, b5⟩
    have HG := Lib.hid hdk
    have HB5 := Lib.hid (bnext HB4.out b5)
    have HC5 := Lib.hid (bnext HC4.out b5)
    have hgl := hdk.c.1
    clear hdk b5 y0 y1 o2 o3 BL
    go_upto_region 4 with fail
    go_cut [8, 9] (fun u1 u2 wx => ∃ p1 p2 : Nat, u1 = .pointer (some ⟨p1, 0, none⟩) ∧ u2 = .pointer (some ⟨p2, 0, none⟩) ∧ Hid (p1 ≠ p2 ∧ w5.heap.size ≤ p1 ∧ w5.heap.size ≤ p2 ∧ p1 < w5.heap.size + 2 ∧ p2 < w5.heap.size + 2 ∧ wx.heap.size = w5.heap.size + 2 ∧ Blk p1 (toldC (.slice af F.length cf) 0) 68 wx ∧ Blk p2 (toldC (.slice af F.length cf) 0) 68 wx ∧ Below w5.heap.size w5 wx))
    case first =>
      obtain ⟨wq, hwq⟩ : ∃ x, x = w5 := ⟨_, rfl⟩
      subst hwq
      have HK : Hid (∀ w9, Below wq.heap.size wq w9 → w9.cell? ⟨w.heap.size + 1 + 1, 3, none⟩ = some (.slice af F.length cf)) := Lib.hid fun w9 hb => (HO.out.kept1 (bnext HC5.out hb)).cell 3
      have HWDE : Hid (wq.drew.heap.size = wq.heap.size) := Lib.hid rfl
      have hq : Below wq.heap.size wq wq.drew := (Below.refl _ _).drew
      refine wp_region_held_drew (S := fun w9 => w9.cell? ⟨w.heap.size + 1 + 1, 3, none⟩ = some (.slice af F.length cf)) mixed (HK.out _ hq) (fun hHeld => ?_)
      generalize wq.drew = wd at *
      refine wpAnyH_take (i := 0) (oi := _) (v := ?vfs1) rfl (by kernel_rfl) (by kernel_rfl) (by kernel_rfl) (fun _ _ _ h => h) (Or.inl ⟨by kernel_rfl, ?hyfs1⟩) hHeld ?restfs1
      case hyfs1 => (intro w9 hSw; clear hSw; go_simp; try with_reducible rfl)
      try simp only [Act.put, List.getElem_toArray, List.getElem_cons_zero, List.getElem_cons_succ, List.setIfInBounds_toArray, List.set_cons_zero, List.set_cons_succ]
      refine wpAnyH_take (i := 1) (oi := _) (v := ?vfs2) rfl (by kernel_rfl) (by kernel_rfl) (by kernel_rfl) (fun _ _ _ h => h) (Or.inl ⟨by kernel_rfl, ?hyfs2⟩) hHeld ?restfs2
      case hyfs2 => (intro w9 hSw; have e9 := hSw; go_simp; try with_reducible rfl)
      try simp only [Act.put, List.getElem_toArray, List.getElem_cons_zero, List.getElem_cons_succ, List.setIfInBounds_toArray, List.set_cons_zero, List.set_cons_succ]
      refine wpAnyH_take (i := 2) (oi := _) (v := ?vfs3) rfl (by kernel_rfl) (by kernel_rfl) (by kernel_rfl) (fun _ _ _ h => h) (Or.inl ⟨by kernel_rfl, ?hyfs3⟩) hHeld ?restfs3
      case hyfs3 => (intro w9 hSw; clear hSw; go_simp; try with_reducible rfl)
      try simp only [Act.put, List.getElem_toArray, List.getElem_cons_zero, List.getElem_cons_succ, List.setIfInBounds_toArray, List.set_cons_zero, List.set_cons_succ]
      refine wpAnyH_take (i := 4) (oi := _) (v := ?vfs4) rfl (by kernel_rfl) (by kernel_rfl) (by kernel_rfl) (fun _ _ _ h => h) (Or.inl ⟨by kernel_rfl, ?hyfs4⟩) hHeld ?restfs4
      case hyfs4 => (intro w9 hSw; clear hSw; go_simp; try with_reducible rfl)
      try simp only [Act.put, List.getElem_toArray, List.getElem_cons_zero, List.getElem_cons_succ, List.setIfInBounds_toArray, List.set_cons_zero, List.set_cons_succ]
      refine wpAnyH_take (i := 5) (oi := _) (v := ?vfs5) rfl (by kernel_rfl) (by kernel_rfl) (by kernel_rfl) (fun _ _ _ h => h) (Or.inl ⟨by kernel_rfl, ?hyfs5⟩) hHeld ?restfs5
      case hyfs5 => (intro w9 hSw; have e9 := hSw; go_simp; try with_reducible rfl)
      try simp only [Act.put, List.getElem_toArray, List.getElem_cons_zero, List.getElem_cons_succ, List.setIfInBounds_toArray, List.set_cons_zero, List.set_cons_succ]
      refine wpAnyH_take (i := 6) (oi := _) (v := ?vfs6) rfl (by kernel_rfl) (by kernel_rfl) (by kernel_rfl) (fun _ _ _ h => h) (Or.inl ⟨by kernel_rfl, ?hyfs6⟩) hHeld ?restfs6
      case hyfs6 => (intro w9 hSw; clear hSw; go_simp; try with_reducible rfl)
      try simp only [Act.put, List.getElem_toArray, List.getElem_cons_zero, List.getElem_cons_succ, List.setIfInBounds_toArray, List.set_cons_zero, List.set_cons_succ]
      refine wpAnyH_ready (rs := [3, 7]) (by kernel_rfl) (by simp) ?_
      refine AllReadyH.cons (o := _) rfl (fun K hK => ?_) ?_
      · obtain ⟨w7, hw7⟩ : ∃ w9, wd.alloc (.cells #[.slice af F.length cf, .int .i64 0] 68) = w9 := ⟨_, rfl⟩
        have b7 : Below wd.heap.size wd w7 := by rw [← hw7]; exact balloc1 _ _
        have q7 := bnext hq b7
        have hz7 : w7.heap.size = wd.heap.size + 1 := by rw [← hw7]; exact size_alloc _ _
        have hB7 : Blk wd.heap.size #[.slice af F.length cf, .int .i64 0] 68 w7 := by rw [← hw7]; exact Blk.new _ _ _
        have HP1 := Lib.hid hB7
        have HZ7 := Lib.hid hz7
        have HW7 := Lib.hid hw7
        clear hB7 hz7 hw7
        go_simp
        try rw [HW7.out]
        refine hK.out _ _ (HK.out _ (q7)) (fun hHeld3 => ?_)
        clear hK K hHeld
        have hHeld := hHeld3
        clear hHeld3
        try simp only [Act.put, List.getElem_toArray, List.getElem_cons_zero, List.getElem_cons_succ, List.setIfInBounds_toArray, List.set_cons_zero, List.set_cons_succ]
        refine wpAnyH_take (i := 8) (oi := _) (v := ?vfs8) rfl (by kernel_rfl) (by kernel_rfl) (by kernel_rfl) (fun _ _ _ h => h) (Or.inl ⟨by kernel_rfl, ?hyfs8⟩) hHeld ?restfs8
        case hyfs8 => (intro w9 hSw; clear hSw; go_simp; try with_reducible rfl)
        try simp only [Act.put, List.getElem_toArray, List.getElem_cons_zero, List.getElem_cons_succ, List.setIfInBounds_toArray, List.set_cons_zero, List.set_cons_succ]
        refine wpAnyH_ready (rs := [7]) (by kernel_rfl) (by simp) ?_
        refine AllReadyH.cons (o := _) rfl (fun K hK => ?_) ?_
        · obtain ⟨w9, hw9⟩ : ∃ w9, w7.alloc (.cells #[.slice af F.length cf, .int .i64 0] 68) = w9 := ⟨_, rfl⟩
          have b9 : Below w7.heap.size w7 w9 := by rw [← hw9]; exact balloc1 _ _
          have q9 := bnext q7 b9
          have hz9 : w9.heap.size = w7.heap.size + 1 := by rw [← hw9]; exact size_alloc _ _
          have hB9 : Blk w7.heap.size #[.slice af F.length cf, .int .i64 0] 68 w9 := by rw [← hw9]; exact Blk.new _ _ _
          have HP1 := Lib.hid (HP1.out.kept1 b9)
          have HP2 := Lib.hid hB9
          have HZ9 := Lib.hid hz9
          have HW9 := Lib.hid hw9
          clear hB9 hz9 hw9
          go_simp
          try rw [HW9.out]
          refine hK.out _ _ (HK.out _ (q9)) (fun hHeld3 => ?_)
          clear hK K hHeld
          have hHeld := hHeld3
          clear hHeld3
          try simp only [Act.put, List.getElem_toArray, List.getElem_cons_zero, List.getElem_cons_succ, List.setIfInBounds_toArray, List.set_cons_zero, List.set_cons_succ]
          refine wpAnyH_take (i := 9) (oi := _) (v := ?vfs10) rfl (by kernel_rfl) (by kernel_rfl) (by kernel_rfl) (fun _ _ _ h => h) (Or.inl ⟨by kernel_rfl, ?hyfs10⟩) hHeld ?restfs10
          case hyfs10 => (intro w9 hSw; clear hSw; go_simp; try with_reducible rfl)
          try simp only [Act.put, List.getElem_toArray, List.getElem_cons_zero, List.getElem_cons_succ, List.setIfInBounds_toArray, List.set_cons_zero, List.set_cons_succ]
          refine ⟨by kernel_rfl, ?_⟩
          clear hHeld
          have HQ := Lib.hid (q9)
          go_wp2
          go_meet
          case rel => exact ⟨wd.heap.size, w7.heap.size, rfl, rfl, Lib.hid ⟨by have := HZ7.out; have := HZ9.out; have := HWDE.out; omega, by have := hq.size; have := HZ7.out; have := HZ9.out; have := HWDE.out; omega, by have := hq.size; have := HZ7.out; have := HZ9.out; have := HWDE.out; omega, by have := HZ7.out; have := HZ9.out; have := HWDE.out; omega, by have := HZ7.out; have := HZ9.out; have := HWDE.out; omega, by have := HZ7.out; have := HZ9.out; have := HWDE.out; omega, HP1.out, HP2.out, HQ.out⟩⟩
        exact AllReadyH.nil
      refine AllReadyH.cons (o := _) rfl (fun K hK => ?_) ?_
      · obtain ⟨w11, hw11⟩ : ∃ w9, wd.alloc (.cells #[.slice af F.length cf, .int .i64 0] 68) = w9 := ⟨_, rfl⟩
        have b11 : Below wd.heap.size wd w11 := by rw [← hw11]; exact balloc1 _ _
        have q11 := bnext hq b11
        have hz11 : w11.heap.size = wd.heap.size + 1 := by rw [← hw11]; exact size_alloc _ _
        have hB11 : Blk wd.heap.size #[.slice af F.length cf, .int .i64 0] 68 w11 := by rw [← hw11]; exact Blk.new _ _ _
        have HP2 := Lib.hid hB11
        have HZ11 := Lib.hid hz11
        have HW11 := Lib.hid hw11
        clear hB11 hz11 hw11
        go_simp
        try rw [HW11.out]
        refine hK.out _ _ (HK.out _ (q11)) (fun hHeld3 => ?_)
        clear hK K hHeld
        have hHeld := hHeld3
        clear hHeld3
        try simp only [Act.put, List.getElem_toArray, List.getElem_cons_zero, List.getElem_cons_succ, List.setIfInBounds_toArray, List.set_cons_zero, List.set_cons_succ]
        refine wpAnyH_ready (rs := [3]) (by kernel_rfl) (by simp) ?_
        refine AllReadyH.cons (o := _) rfl (fun K hK => ?_) ?_
        · obtain ⟨w12, hw12⟩ : ∃ w9, w11.alloc (.cells #[.slice af F.length cf, .int .i64 0] 68) = w9 := ⟨_, rfl⟩
          have b12 : Below w11.heap.size w11 w12 := by rw [← hw12]; exact balloc1 _ _
          have q12 := bnext q11 b12
          have hz12 : w12.heap.size = w11.heap.size + 1 := by rw [← hw12]; exact size_alloc _ _
          have hB12 : Blk w11.heap.size #[.slice af F.length cf, .int .i64 0] 68 w12 := by rw [← hw12]; exact Blk.new _ _ _
          have HP2 := Lib.hid (HP2.out.kept1 b12)
          have HP1 := Lib.hid hB12
          have HZ12 := Lib.hid hz12
          have HW12 := Lib.hid hw12
          clear hB12 hz12 hw12
          go_simp
          try rw [HW12.out]
          refine hK.out _ _ (HK.out _ (q12)) (fun hHeld3 => ?_)
          clear hK K hHeld
          have hHeld := hHeld3
          clear hHeld3
          try simp only [Act.put, List.getElem_toArray, List.getElem_cons_zero, List.getElem_cons_succ, List.setIfInBounds_toArray, List.set_cons_zero, List.set_cons_succ]
          refine wpAnyH_take (i := 8) (oi := _) (v := ?vfs13) rfl (by kernel_rfl) (by kernel_rfl) (by kernel_rfl) (fun _ _ _ h => h) (Or.inl ⟨by kernel_rfl, ?hyfs13⟩) hHeld ?restfs13
          case hyfs13 => (intro w9 hSw; clear hSw; go_simp; try with_reducible rfl)
          try simp only [Act.put, List.getElem_toArray, List.getElem_cons_zero, List.getElem_cons_succ, List.setIfInBounds_toArray, List.set_cons_zero, List.set_cons_succ]
          refine wpAnyH_take (i := 9) (oi := _) (v := ?vfs14) rfl (by kernel_rfl) (by kernel_rfl) (by kernel_rfl) (fun _ _ _ h => h) (Or.inl ⟨by kernel_rfl, ?hyfs14⟩) hHeld ?restfs14
          case hyfs14 => (intro w9 hSw; clear hSw; go_simp; try with_reducible rfl)
          try simp only [Act.put, List.getElem_toArray, List.getElem_cons_zero, List.getElem_cons_succ, List.setIfInBounds_toArray, List.set_cons_zero, List.set_cons_succ]
          refine ⟨by kernel_rfl, ?_⟩
          clear hHeld
          have HQ := Lib.hid (q12)
          go_wp2
          go_meet
          case rel => exact ⟨w11.heap.size, wd.heap.size, rfl, rfl, Lib.hid ⟨by have := HZ11.out; have := HZ12.out; have := HWDE.out; omega, by have := hq.size; have := HZ11.out; have := HZ12.out; have := HWDE.out; omega, by have := hq.size; have := HZ11.out; have := HZ12.out; have := HWDE.out; omega, by have := HZ11.out; have := HZ12.out; have := HWDE.out; omega, by have := HZ11.out; have := HZ12.out; have := HWDE.out; omega, by have := HZ11.out; have := HZ12.out; have := HWDE.out; omega, HP1.out, HP2.out, HQ.out⟩⟩
        exact AllReadyH.nil
      exact AllReadyH.nil
    case rest =>
      obtain ⟨p1, p2, rfl, rfl, HP⟩ := hcut
      obtain ⟨w6, hw6⟩ : ∃ x, x = wc := ⟨_, rfl⟩
      subst hw6
      have hfd1 : F.length ≤ 1000 := by omega
      have HB6 := Lib.hid (bnext HB5.out HP.out.2.2.2.2.2.2.2.2)
      have HC6 := Lib.hid (bnext HC5.out HP.out.2.2.2.2.2.2.2.2)
      have HG6 := Lib.hid (HG.out.kept1 HP.out.2.2.2.2.2.2.2.2)
      have hw56 := HB5.out.size
      have HT1 : Hid (ToldI w.heap.size p1 (.slice af F.length cf) F 0 w6) := Lib.hid ⟨HP.out.2.2.2.2.2.2.1, fun W' hb => HVF.out.kept ((HB6.out.mono (Nat.le_refl _)).trans hb), by have := HP.out.2.1; omega⟩
      have HT2 : Hid (ToldI w.heap.size p2 (.slice af F.length cf) F 0 w6) := Lib.hid ⟨HP.out.2.2.2.2.2.2.2.1, fun W' hb => HVF.out.kept ((HB6.out.mono (Nat.le_refl _)).trans hb), by have := HP.out.2.2.1; omega⟩
      obtain ⟨R, hR⟩ : ∃ R, replN (toldN F) (rdOf (dskF d) bad) dp root a t L 0 = R := ⟨_, rfl⟩
      have RPL : Hid (∀ X p q W, w.heap.size ≤ W.heap.size → Below w.heap.size w W → RdrAt p q g (dskF d) bad W → w.heap.size ≤ X → ToldI w.heap.size X (.slice af F.length cf) F 0 W →
          Calls Tryz.prog 28 #[.agg #[.int .i64 dp, .slice at' root.length ct], .func (.func 49) #[] (rdrC p q), .int .i64 a, .int .i64 t, .slice al L.length cl, .func (.func 29) #[.pointer (some ⟨X, 0, none⟩)] #[]] W
            fun e W' => ∃ vr vc vf', e = .returned (.tuple #[setV (dpR R.1) vr vc vf', .int .i64 (ecR R.1)]) ∧ EntsAt W.heap.size vr (rtR R.1) W' ∧ ChgsOwn W.heap.size vc (chR R.1) W' ∧ IntsFk W.heap.size vf' (frR R.1) W' ∧ ToldI w.heap.size X (.slice af F.length cf) F R.2 W' ∧ W.grownBy W' (some X) ∧ lenR R.1) := Lib.hid fun X p q W h1 h2 h3 h4 h5 => by
        have := replace_told w.heap.size X _ F hfd1 hfF p q g (dskF d) HSZ.out bad W h3 dp hdp root hfr _ (HVT.out.kept h2) (EntsS.old HVT.out h4 h2 (by have := h5.b.lt; omega)) a t ha ht L hfL (by omega) _ (HVL.out.kept h2) h5
        rw [hR] at this
        exact this
      clear hR hfd1
      have HK5 : Hid (∀ w9, Below w5.heap.size w5 w9 → w9.cell? ⟨w.heap.size, 0, none⟩ = some (.int .i64 dp) ∧ w9.cell? ⟨w.heap.size, 1, none⟩ = some (.slice at' root.length ct) ∧ w9.cell? ⟨w.heap.size + 1, 1, none⟩ = some (.int .i64 bad) ∧ w9.cell? ⟨w.heap.size + 1 + 1, 0, none⟩ = some (.int .i64 a) ∧ w9.cell? ⟨w.heap.size + 1 + 1, 1, none⟩ = some (.int .i64 t) ∧ w9.cell? ⟨w.heap.size + 1 + 1, 2, none⟩ = some (.slice al L.length cl)) := Lib.hid fun w9 hb => by
        have b := bnext HC5.out hb
        exact ⟨(HT.out.kept1 b).cell 0, (HT.out.kept1 b).cell 1, (HD.out.kept1 b).cell 1, (HO.out.kept1 b).cell 0, (HO.out.kept1 b).cell 1, (HO.out.kept1 b).cell 2⟩
      go_upto_region 5 with fail
      go_cut [10, 11] (fun u1 u2 wx => ∃ (X : Nat) (vr vc vf' : Value), u1 = .pointer (some ⟨X, 0, none⟩) ∧ u2 = .int .i64 (ecR R.1) ∧ Hid (w6.heap.size ≤ X ∧ Blk X #[.int .i64 (dpR R.1), vr, vc, vf'] 58 wx ∧ EntsAt w6.heap.size vr (rtR R.1) wx ∧ ChgsOwn w6.heap.size vc (chR R.1) wx ∧ IntsFk w6.heap.size vf' (frR R.1) wx ∧ ToldI w.heap.size p1 (.slice af F.length cf) F R.2 wx ∧ ToldI w.heap.size p2 (.slice af F.length cf) F 0 wx ∧ Below w5.heap.size w5 wx ∧ lenR R.1))
      case first =>
        obtain ⟨wq, hwq⟩ : ∃ x, x = w6 := ⟨_, rfl⟩
        subst hwq
        have hq : Below w5.heap.size w5 wq.drew := HP.out.2.2.2.2.2.2.2.2.drew
        have HT1 := Lib.hid (HT1.out.kept1 (Below.refl _ _).drew)
        have HT2 := Lib.hid (HT2.out.kept1 (Below.refl _ _).drew)
        have HGG := Lib.hid (HG6.out.kept1 (Below.refl _ _).drew)
        have HWD : Hid (wq.heap.size ≤ wq.drew.heap.size) := Lib.hid (Nat.le_refl _)
        refine wp_region_held_drew (S := fun w9 => w9.cell? ⟨w.heap.size, 0, none⟩ = some (.int .i64 dp) ∧ w9.cell? ⟨w.heap.size, 1, none⟩ = some (.slice at' root.length ct) ∧ w9.cell? ⟨w.heap.size + 1, 1, none⟩ = some (.int .i64 bad) ∧ w9.cell? ⟨w.heap.size + 1 + 1, 0, none⟩ = some (.int .i64 a) ∧ w9.cell? ⟨w.heap.size + 1 + 1, 1, none⟩ = some (.int .i64 t) ∧ w9.cell? ⟨w.heap.size + 1 + 1, 2, none⟩ = some (.slice al L.length cl)) mixed (HK5.out _ (hq)) (fun hHeld => ?_)
        generalize wq.drew = wd at *
        refine wpAnyH_take (i := 0) (oi := _) (v := ?vft15) rfl (by kernel_rfl) (by kernel_rfl) (by kernel_rfl) (fun _ _ _ h => h) (Or.inl ⟨by kernel_rfl, ?hyft15⟩) hHeld ?restft15
        case hyft15 => (intro w9 hSw; obtain ⟨e1, e2, e3, e4, e5, e6⟩ := hSw; go_simp; try with_reducible rfl)
        try simp only [Act.put, List.getElem_toArray, List.getElem_cons_zero, List.getElem_cons_succ, List.setIfInBounds_toArray, List.set_cons_zero, List.set_cons_succ]
        refine wpAnyH_take (i := 1) (oi := _) (v := ?vft16) rfl (by kernel_rfl) (by kernel_rfl) (by kernel_rfl) (fun _ _ _ h => h) (Or.inl ⟨by kernel_rfl, ?hyft16⟩) hHeld ?restft16
        case hyft16 => (intro w9 hSw; clear hSw; go_simp; try with_reducible rfl)
        try simp only [Act.put, List.getElem_toArray, List.getElem_cons_zero, List.getElem_cons_succ, List.setIfInBounds_toArray, List.set_cons_zero, List.set_cons_succ]
        refine wpAnyH_take (i := 2) (oi := _) (v := ?vft17) rfl (by kernel_rfl) (by kernel_rfl) (by kernel_rfl) (fun _ _ _ h => h) (Or.inl ⟨by kernel_rfl, ?hyft17⟩) hHeld ?restft17
        case hyft17 => (intro w9 hSw; clear hSw; go_simp; try with_reducible rfl)
        try simp only [Act.put, List.getElem_toArray, List.getElem_cons_zero, List.getElem_cons_succ, List.setIfInBounds_toArray, List.set_cons_zero, List.set_cons_succ]
        refine wpAnyH_take (i := 3) (oi := _) (v := ?vft18) rfl (by kernel_rfl) (by kernel_rfl) (by kernel_rfl) (fun _ _ _ h => h) (Or.inl ⟨by kernel_rfl, ?hyft18⟩) hHeld ?restft18
        case hyft18 => (intro w9 hSw; obtain ⟨e1, e2, e3, e4, e5, e6⟩ := hSw; go_simp; try with_reducible rfl)
        try simp only [Act.put, List.getElem_toArray, List.getElem_cons_zero, List.getElem_cons_succ, List.setIfInBounds_toArray, List.set_cons_zero, List.set_cons_succ]
        refine wpAnyH_take (i := 5) (oi := _) (v := ?vft19) rfl (by kernel_rfl) (by kernel_rfl) (by kernel_rfl) (fun _ _ _ h => h) (Or.inl ⟨by kernel_rfl, ?hyft19⟩) hHeld ?restft19
        case hyft19 => (intro w9 hSw; clear hSw; go_simp; try with_reducible rfl)
        try simp only [Act.put, List.getElem_toArray, List.getElem_cons_zero, List.getElem_cons_succ, List.setIfInBounds_toArray, List.set_cons_zero, List.set_cons_succ]
        refine wpAnyH_take (i := 6) (oi := _) (v := ?vft20) rfl (by kernel_rfl) (by kernel_rfl) (by kernel_rfl) (fun _ _ _ h => h) (Or.inl ⟨by kernel_rfl, ?hyft20⟩) hHeld ?restft20
        case hyft20 => (intro w9 hSw; obtain ⟨e1, e2, e3, e4, e5, e6⟩ := hSw; go_simp; try with_reducible rfl)
        try simp only [Act.put, List.getElem_toArray, List.getElem_cons_zero, List.getElem_cons_succ, List.setIfInBounds_toArray, List.set_cons_zero, List.set_cons_succ]
        refine wpAnyH_take (i := 7) (oi := _) (v := ?vft21) rfl (by kernel_rfl) (by kernel_rfl) (by kernel_rfl) (fun _ _ _ h => h) (Or.inl ⟨by kernel_rfl, ?hyft21⟩) hHeld ?restft21
        case hyft21 => (intro w9 hSw; clear hSw; go_simp; try with_reducible rfl)
        try simp only [Act.put, List.getElem_toArray, List.getElem_cons_zero, List.getElem_cons_succ, List.setIfInBounds_toArray, List.set_cons_zero, List.set_cons_succ]
        refine wpAnyH_take (i := 8) (oi := _) (v := ?vft22) rfl (by kernel_rfl) (by kernel_rfl) (by kernel_rfl) (fun _ _ _ h => h) (Or.inl ⟨by kernel_rfl, ?hyft22⟩) hHeld ?restft22
        case hyft22 => (intro w9 hSw; obtain ⟨e1, e2, e3, e4, e5, e6⟩ := hSw; go_simp; try with_reducible rfl)
        try simp only [Act.put, List.getElem_toArray, List.getElem_cons_zero, List.getElem_cons_succ, List.setIfInBounds_toArray, List.set_cons_zero, List.set_cons_succ]
        refine wpAnyH_take (i := 9) (oi := _) (v := ?vft23) rfl (by kernel_rfl) (by kernel_rfl) (by kernel_rfl) (fun _ _ _ h => h) (Or.inl ⟨by kernel_rfl, ?hyft23⟩) hHeld ?restft23
        case hyft23 => (intro w9 hSw; clear hSw; go_simp; try with_reducible rfl)
        try simp only [Act.put, List.getElem_toArray, List.getElem_cons_zero, List.getElem_cons_succ, List.setIfInBounds_toArray, List.set_cons_zero, List.set_cons_succ]
        refine wpAnyH_take (i := 10) (oi := _) (v := ?vft24) rfl (by kernel_rfl) (by kernel_rfl) (by kernel_rfl) (fun _ _ _ h => h) (Or.inl ⟨by kernel_rfl, ?hyft24⟩) hHeld ?restft24
        case hyft24 => (intro w9 hSw; obtain ⟨e1, e2, e3, e4, e5, e6⟩ := hSw; go_simp; try with_reducible rfl)
        try simp only [Act.put, List.getElem_toArray, List.getElem_cons_zero, List.getElem_cons_succ, List.setIfInBounds_toArray, List.set_cons_zero, List.set_cons_succ]
        refine wpAnyH_take (i := 11) (oi := _) (v := ?vft25) rfl (by kernel_rfl) (by kernel_rfl) (by kernel_rfl) (fun _ _ _ h => h) (Or.inl ⟨by kernel_rfl, ?hyft25⟩) hHeld ?restft25
        case hyft25 => (intro w9 hSw; clear hSw; go_simp; try with_reducible rfl)
        try simp only [Act.put, List.getElem_toArray, List.getElem_cons_zero, List.getElem_cons_succ, List.setIfInBounds_toArray, List.set_cons_zero, List.set_cons_succ]
        refine wpAnyH_take (i := 12) (oi := _) (v := ?vft26) rfl (by kernel_rfl) (by kernel_rfl) (by kernel_rfl) (fun _ _ _ h => h) (Or.inl ⟨by kernel_rfl, ?hyft26⟩) hHeld ?restft26
        case hyft26 => (intro w9 hSw; clear hSw; go_simp; try with_reducible rfl)
        try simp only [Act.put, List.getElem_toArray, List.getElem_cons_zero, List.getElem_cons_succ, List.setIfInBounds_toArray, List.set_cons_zero, List.set_cons_succ]
        refine wpAnyH_ready (rs := [4, 17]) (by kernel_rfl) (by simp) ?_
        refine AllReadyH.cons (o := _) rfl (fun K hK => ?_) ?_
        · go_simp
          refine (lreading_any (dskF d) bad g wd HGG.out).mono ?_; rintro e w27 ⟨rfl, hr27, b27⟩
          dsimp only
          have q27 := bnext hq b27
          have HT1 := Lib.hid (HT1.out.kept1 b27)
          have HT2 := Lib.hid (HT2.out.kept1 b27)
          have HGG := Lib.hid (HGG.out.kept1 b27)
          have HRR := Lib.hid hr27
          clear hr27
          have HWD := Lib.hid (Nat.le_trans HWD.out b27.size)
          refine hK.out _ _ (HK5.out _ (q27)) (fun hHeld3 => ?_)
          clear hK K hHeld
          have hHeld := hHeld3
          clear hHeld3
          try simp only [Act.put, List.getElem_toArray, List.getElem_cons_zero, List.getElem_cons_succ, List.setIfInBounds_toArray, List.set_cons_zero, List.set_cons_succ]
          refine wpAnyH_ready (rs := [13, 17]) (by kernel_rfl) (by simp) ?_
          refine AllReadyH.cons (o := _) rfl (fun K hK => ?_) ?_
          · go_simp
            have hbw28 := bnext HB5.out (q27)
            have hx28 := RPL.out _ _ _ w27 hbw28.size hbw28 HRR.out HT1.out.le HT1.out
            refine hx28.mono ?_; rintro e w28 ⟨vr, vc, vf2, rfl, hvr, hvc, hvf, hto, hgb, hlen⟩
            dsimp only
            have b28 : Below w5.heap.size w27 w28 := ⟨hgb.os, hgb.tape, hgb.output, hgb.size, fun k hk => hgb.block k (by have := (q27).size; omega) fun e => by cases e; have := HP.out.2.1; have := HP.out.2.2.1; omega⟩
            have q28 := (q27).trans b28
            have HQS28 := Lib.hid hgb.size
            have HWDP := HWD
            have HWD := Lib.hid (Nat.le_trans HWD.out hgb.size)
            have HTOLD := HT1
            have HT1 := Lib.hid hto
            have HT2 := Lib.hid (HT2.out.grown hgb HTOLD.out.le (by have := HP.out.1; omega))
            have HVR := Lib.hid (row_down (HWDP.out) hvr)
            have HVC := Lib.hid (row_down (HWDP.out) hvc)
            have HVF2 := Lib.hid (row_down (HWDP.out) hvf)
            obtain ⟨ra9, rc9, rfl, -⟩ := shape_of hvr
            obtain ⟨ca9, cc9, rfl, -⟩ := shape_of hvc
            obtain ⟨fa9, fc9, rfl, -⟩ := shape_of hvf
            have HLEN := Lib.hid hlen
            clear hvr hvc hvf hto hgb hlen
            refine hK.out _ _ (HK5.out _ (q28)) (fun hHeld3 => ?_)
            clear hK K hHeld
            have hHeld := hHeld3
            clear hHeld3
            try simp only [Act.put, List.getElem_toArray, List.getElem_cons_zero, List.getElem_cons_succ, List.setIfInBounds_toArray, List.set_cons_zero, List.set_cons_succ]
            refine wpAnyH_take (i := 14) (oi := _) (v := ?vft29) rfl (by kernel_rfl) (by kernel_rfl) (by kernel_rfl) (fun _ _ _ h => h) (Or.inl ⟨by kernel_rfl, ?hyft29⟩) hHeld ?restft29
            case hyft29 => (intro w9 hSw; clear hSw; go_simp; try with_reducible rfl)
            try simp only [Act.put, List.getElem_toArray, List.getElem_cons_zero, List.getElem_cons_succ, List.setIfInBounds_toArray, List.set_cons_zero, List.set_cons_succ]
            refine wpAnyH_take (i := 15) (oi := _) (v := ?vft30) rfl (by kernel_rfl) (by kernel_rfl) (by kernel_rfl) (fun _ _ _ h => h) (Or.inl ⟨by kernel_rfl, ?hyft30⟩) hHeld ?restft30
            case hyft30 => (intro w9 hSw; clear hSw; go_simp; try with_reducible rfl)
            try simp only [Act.put, List.getElem_toArray, List.getElem_cons_zero, List.getElem_cons_succ, List.setIfInBounds_toArray, List.set_cons_zero, List.set_cons_succ]
            refine wpAnyH_take (i := 16) (oi := _) (v := ?vft31) rfl (by kernel_rfl) (by kernel_rfl) (by kernel_rfl) (fun _ _ _ h => h) (Or.inl ⟨by kernel_rfl, ?hyft31⟩) hHeld ?restft31
            case hyft31 => (intro w9 hSw; clear hSw; go_simp; try with_reducible rfl)
            try simp only [Act.put, List.getElem_toArray, List.getElem_cons_zero, List.getElem_cons_succ, List.setIfInBounds_toArray, List.set_cons_zero, List.set_cons_succ]
            refine wpAnyH_ready (rs := [17]) (by kernel_rfl) (by simp) ?_
            refine AllReadyH.cons (o := _) rfl (fun K hK => ?_) ?_
            · obtain ⟨w32, hw32⟩ : ∃ w9, w28.alloc (.cells setC 58) = w9 := ⟨_, rfl⟩
              have b32 : Below w28.heap.size w28 w32 := by rw [← hw32]; exact balloc1 _ _
              have q32 := bnext q28 b32
              have hz32 : w32.heap.size = w28.heap.size + 1 := by rw [← hw32]; exact size_alloc _ _
              have hB32 : Blk w28.heap.size setC 58 w32 := by rw [← hw32]; exact Blk.new _ _ _
              have HT1 := Lib.hid (HT1.out.kept1 b32)
              have HT2 := Lib.hid (HT2.out.kept1 b32)
              have HVR := Lib.hid (row_kept HVR.out b32)
              have HVC := Lib.hid (row_kept HVC.out b32)
              have HVF2 := Lib.hid (row_kept HVF2.out b32)
              have HX := Lib.hid hB32
              have HZ32 := Lib.hid hz32
              have HW32 := Lib.hid hw32
              clear hB32 hz32 hw32
              go_simp
              try rw [HW32.out]
              have HXQ : Hid (wq.heap.size ≤ w28.heap.size) := Lib.hid HWD.out
              have HWD := Lib.hid (Nat.le_trans HWD.out b32.size)
              refine hK.out _ _ (HK5.out _ (q32)) (fun hHeld3 => ?_)
              clear hK K hHeld
              have hHeld := hHeld3
              clear hHeld3
              try simp only [Act.put, List.getElem_toArray, List.getElem_cons_zero, List.getElem_cons_succ, List.setIfInBounds_toArray, List.set_cons_zero, List.set_cons_succ]
              refine wpAnyH_ready (rs := [18]) (by kernel_rfl) (by simp) ?_
              refine AllReadyH.cons (o := _) rfl (fun K hK => ?_) ?_
              · obtain ⟨w33, hw33⟩ : ∃ w9, w32.setRow w28.heap.size #[.int .i64 (dpR R.1), .slice ra9 (rtR R.1).length rc9, .slice ca9 (chR R.1).length cc9, .slice fa9 (frR R.1).length fc9] = w9 := ⟨_, rfl⟩
                have hB33 : Blk w28.heap.size #[.int .i64 (dpR R.1), .slice ra9 (rtR R.1).length rc9, .slice ca9 (chR R.1).length cc9, .slice fa9 (frR R.1).length fc9] 58 w33 := by rw [← hw33]; exact setRow_blk HX.out _
                have g33 : World.grownBy w32 w33 (some w28.heap.size) := by rw [← hw33]; exact ⟨rfl, rfl, rfl, by simp, fun k hk hne => setRow_other _ _ k _ (fun e => hne (by rw [e]))⟩
                have b33 : Below w5.heap.size w32 w33 := by rw [← hw33]; exact setRow_below (by have := HXQ.out; have := (q32).size; have := HP.out; omega) _
                have q33 := (q32).trans b33
                have HVR := Lib.hid (row_grown HVR.out g33 fun q hq e => by cases e; exact absurd (ty_one (own_ty HVR.out hq).1 ⟨_, _, HX.out⟩) (by decide))
                have HVC := Lib.hid (row_grown HVC.out g33 fun q hq e => by cases e; exact absurd (ty_one (own_ty HVC.out hq).1 ⟨_, _, HX.out⟩) (by decide))
                have HVF2 := Lib.hid (row_grown HVF2.out g33 fun q hq e => by cases e; exact absurd (ty_one (own_ty HVF2.out hq).1 ⟨_, _, HX.out⟩) (by decide))
                have HT1 := Lib.hid (HT1.out.grown g33 (by have := HXQ.out; have := HP.out; omega) (by have := HXQ.out; have := HP.out; omega))
                have HT2 := Lib.hid (HT2.out.grown g33 (by have := HXQ.out; have := HP.out; omega) (by have := HXQ.out; have := HP.out; omega))
                have HW33 := Lib.hid hw33
                clear hw33 g33 b33
                rw [if_pos (by kernel_rfl)]
                refine wp_store_row 58 _ _ rfl w28.heap.size #[.int .i64 (dpR R.1), .slice ra9 (rtR R.1).length rc9, .slice ca9 (chR R.1).length cc9, .slice fa9 (frR R.1).length fc9] rfl rfl _ _ HX.out set_sz rfl (by simp [Value.oneCell']) ?_
                rw [HW33.out]
                have HX := Lib.hid hB33
                clear hB33
                refine hK.out _ _ (HK5.out _ (q33)) (fun hHeld3 => ?_)
                clear hK K hHeld
                have hHeld := hHeld3
                clear hHeld3
                try simp only [Act.put, List.getElem_toArray, List.getElem_cons_zero, List.getElem_cons_succ, List.setIfInBounds_toArray, List.set_cons_zero, List.set_cons_succ]
                refine wpAnyH_take (i := 19) (oi := _) (v := ?vft34) rfl (by kernel_rfl) (by kernel_rfl) (by kernel_rfl) (fun _ _ _ h => h) (Or.inl ⟨by kernel_rfl, ?hyft34⟩) hHeld ?restft34
                case hyft34 => (intro w9 hSw; clear hSw; go_simp; try with_reducible rfl)
                try simp only [Act.put, List.getElem_toArray, List.getElem_cons_zero, List.getElem_cons_succ, List.setIfInBounds_toArray, List.set_cons_zero, List.set_cons_succ]
                refine ⟨by kernel_rfl, ?_⟩
                clear hHeld
                have HQ := Lib.hid (q33)
                go_wp2
                go_meet
                case rel => exact ⟨w28.heap.size, _, _, _, rfl, rfl, Lib.hid ⟨HXQ.out, HX.out, HVR.out, HVC.out, HVF2.out, HT1.out, HT2.out, HQ.out, HLEN.out⟩⟩
              exact AllReadyH.nil
            exact AllReadyH.nil
          refine AllReadyH.cons (o := _) rfl (fun K hK => ?_) ?_
          · obtain ⟨w35, hw35⟩ : ∃ w9, w27.alloc (.cells setC 58) = w9 := ⟨_, rfl⟩
            have b35 : Below w27.heap.size w27 w35 := by rw [← hw35]; exact balloc1 _ _
            have q35 := bnext q27 b35
            have hz35 : w35.heap.size = w27.heap.size + 1 := by rw [← hw35]; exact size_alloc _ _
            have hB35 : Blk w27.heap.size setC 58 w35 := by rw [← hw35]; exact Blk.new _ _ _
            have HT1 := Lib.hid (HT1.out.kept1 b35)
            have HT2 := Lib.hid (HT2.out.kept1 b35)
            have HGG := Lib.hid (HGG.out.kept1 b35)
            have HRR := Lib.hid (HRR.out.kept1 b35)
            have HX := Lib.hid hB35
            have HZ35 := Lib.hid hz35
            have HW35 := Lib.hid hw35
            clear hB35 hz35 hw35
            go_simp
            try rw [HW35.out]
            have HXQ : Hid (wq.heap.size ≤ w27.heap.size) := Lib.hid HWD.out
            have HWD := Lib.hid (Nat.le_trans HWD.out b35.size)
            refine hK.out _ _ (HK5.out _ (q35)) (fun hHeld3 => ?_)
            clear hK K hHeld
            have hHeld := hHeld3
            clear hHeld3
            try simp only [Act.put, List.getElem_toArray, List.getElem_cons_zero, List.getElem_cons_succ, List.setIfInBounds_toArray, List.set_cons_zero, List.set_cons_succ]
            refine wpAnyH_ready (rs := [13]) (by kernel_rfl) (by simp) ?_
            refine AllReadyH.cons (o := _) rfl (fun K hK => ?_) ?_
            · go_simp
              have hbw36 := bnext HB5.out (q35)
              have hx36 := RPL.out _ _ _ w35 hbw36.size hbw36 HRR.out HT1.out.le HT1.out
              refine hx36.mono ?_; rintro e w36 ⟨vr, vc, vf2, rfl, hvr, hvc, hvf, hto, hgb, hlen⟩
              dsimp only
              have b36 : Below w5.heap.size w35 w36 := ⟨hgb.os, hgb.tape, hgb.output, hgb.size, fun k hk => hgb.block k (by have := (q35).size; omega) fun e => by cases e; have := HP.out.2.1; have := HP.out.2.2.1; omega⟩
              have q36 := (q35).trans b36
              have HQS36 := Lib.hid hgb.size
              have HWDP := HWD
              have HWD := Lib.hid (Nat.le_trans HWD.out hgb.size)
              have HTOLD := HT1
              have HT1 := Lib.hid hto
              have HT2 := Lib.hid (HT2.out.grown hgb HTOLD.out.le (by have := HP.out.1; omega))
              have HX : Hid (Blk w27.heap.size setC 58 w36) := Lib.hid ((hgb.block _ HX.out.lt fun e => by cases e; have := HXQ.out; have := HP.out; omega).trans HX.out)
              have HVR := Lib.hid (row_down (HWDP.out) hvr)
              have HVC := Lib.hid (row_down (HWDP.out) hvc)
              have HVF2 := Lib.hid (row_down (HWDP.out) hvf)
              obtain ⟨ra9, rc9, rfl, -⟩ := shape_of hvr
              obtain ⟨ca9, cc9, rfl, -⟩ := shape_of hvc
              obtain ⟨fa9, fc9, rfl, -⟩ := shape_of hvf
              have HLEN := Lib.hid hlen
              clear hvr hvc hvf hto hgb hlen
              refine hK.out _ _ (HK5.out _ (q36)) (fun hHeld3 => ?_)
              clear hK K hHeld
              have hHeld := hHeld3
              clear hHeld3
              try simp only [Act.put, List.getElem_toArray, List.getElem_cons_zero, List.getElem_cons_succ, List.setIfInBounds_toArray, List.set_cons_zero, List.set_cons_succ]
              refine wpAnyH_take (i := 14) (oi := _) (v := ?vft37) rfl (by kernel_rfl) (by kernel_rfl) (by kernel_rfl) (fun _ _ _ h => h) (Or.inl ⟨by kernel_rfl, ?hyft37⟩) hHeld ?restft37
              case hyft37 => (intro w9 hSw; clear hSw; go_simp; try with_reducible rfl)
              try simp only [Act.put, List.getElem_toArray, List.getElem_cons_zero, List.getElem_cons_succ, List.setIfInBounds_toArray, List.set_cons_zero, List.set_cons_succ]
              refine wpAnyH_take (i := 15) (oi := _) (v := ?vft38) rfl (by kernel_rfl) (by kernel_rfl) (by kernel_rfl) (fun _ _ _ h => h) (Or.inl ⟨by kernel_rfl, ?hyft38⟩) hHeld ?restft38
              case hyft38 => (intro w9 hSw; clear hSw; go_simp; try with_reducible rfl)
              try simp only [Act.put, List.getElem_toArray, List.getElem_cons_zero, List.getElem_cons_succ, List.setIfInBounds_toArray, List.set_cons_zero, List.set_cons_succ]
              refine wpAnyH_take (i := 16) (oi := _) (v := ?vft39) rfl (by kernel_rfl) (by kernel_rfl) (by kernel_rfl) (fun _ _ _ h => h) (Or.inl ⟨by kernel_rfl, ?hyft39⟩) hHeld ?restft39
              case hyft39 => (intro w9 hSw; clear hSw; go_simp; try with_reducible rfl)
              try simp only [Act.put, List.getElem_toArray, List.getElem_cons_zero, List.getElem_cons_succ, List.setIfInBounds_toArray, List.set_cons_zero, List.set_cons_succ]
              refine wpAnyH_ready (rs := [18]) (by kernel_rfl) (by simp) ?_
              refine AllReadyH.cons (o := _) rfl (fun K hK => ?_) ?_
              · obtain ⟨w40, hw40⟩ : ∃ w9, w36.setRow w27.heap.size #[.int .i64 (dpR R.1), .slice ra9 (rtR R.1).length rc9, .slice ca9 (chR R.1).length cc9, .slice fa9 (frR R.1).length fc9] = w9 := ⟨_, rfl⟩
                have hB40 : Blk w27.heap.size #[.int .i64 (dpR R.1), .slice ra9 (rtR R.1).length rc9, .slice ca9 (chR R.1).length cc9, .slice fa9 (frR R.1).length fc9] 58 w40 := by rw [← hw40]; exact setRow_blk HX.out _
                have g40 : World.grownBy w36 w40 (some w27.heap.size) := by rw [← hw40]; exact ⟨rfl, rfl, rfl, by simp, fun k hk hne => setRow_other _ _ k _ (fun e => hne (by rw [e]))⟩
                have b40 : Below w5.heap.size w36 w40 := by rw [← hw40]; exact setRow_below (by have := HXQ.out; have := (q36).size; have := HP.out; omega) _
                have q40 := (q36).trans b40
                have HVR := Lib.hid (row_grown HVR.out g40 fun q hq e => by cases e; exact absurd (ty_one (own_ty HVR.out hq).1 ⟨_, _, HX.out⟩) (by decide))
                have HVC := Lib.hid (row_grown HVC.out g40 fun q hq e => by cases e; exact absurd (ty_one (own_ty HVC.out hq).1 ⟨_, _, HX.out⟩) (by decide))
                have HVF2 := Lib.hid (row_grown HVF2.out g40 fun q hq e => by cases e; exact absurd (ty_one (own_ty HVF2.out hq).1 ⟨_, _, HX.out⟩) (by decide))
                have HT1 := Lib.hid (HT1.out.grown g40 (by have := HXQ.out; have := HP.out; omega) (by have := HXQ.out; have := HP.out; omega))
                have HT2 := Lib.hid (HT2.out.grown g40 (by have := HXQ.out; have := HP.out; omega) (by have := HXQ.out; have := HP.out; omega))
                have HW40 := Lib.hid hw40
                clear hw40 g40 b40
                rw [if_pos (by kernel_rfl)]
                refine wp_store_row 58 _ _ rfl w27.heap.size #[.int .i64 (dpR R.1), .slice ra9 (rtR R.1).length rc9, .slice ca9 (chR R.1).length cc9, .slice fa9 (frR R.1).length fc9] rfl rfl _ _ HX.out set_sz rfl (by simp [Value.oneCell']) ?_
                rw [HW40.out]
                have HX := Lib.hid hB40
                clear hB40
                refine hK.out _ _ (HK5.out _ (q40)) (fun hHeld3 => ?_)
                clear hK K hHeld
                have hHeld := hHeld3
                clear hHeld3
                try simp only [Act.put, List.getElem_toArray, List.getElem_cons_zero, List.getElem_cons_succ, List.setIfInBounds_toArray, List.set_cons_zero, List.set_cons_succ]
                refine wpAnyH_take (i := 19) (oi := _) (v := ?vft41) rfl (by kernel_rfl) (by kernel_rfl) (by kernel_rfl) (fun _ _ _ h => h) (Or.inl ⟨by kernel_rfl, ?hyft41⟩) hHeld ?restft41
                case hyft41 => (intro w9 hSw; clear hSw; go_simp; try with_reducible rfl)
                try simp only [Act.put, List.getElem_toArray, List.getElem_cons_zero, List.getElem_cons_succ, List.setIfInBounds_toArray, List.set_cons_zero, List.set_cons_succ]
                refine ⟨by kernel_rfl, ?_⟩
                clear hHeld
                have HQ := Lib.hid (q40)
                go_wp2
                go_meet
                case rel => exact ⟨w27.heap.size, _, _, _, rfl, rfl, Lib.hid ⟨HXQ.out, HX.out, HVR.out, HVC.out, HVF2.out, HT1.out, HT2.out, HQ.out, HLEN.out⟩⟩
              exact AllReadyH.nil
            exact AllReadyH.nil
          exact AllReadyH.nil
        refine AllReadyH.cons (o := _) rfl (fun K hK => ?_) ?_
        · obtain ⟨w42, hw42⟩ : ∃ w9, wd.alloc (.cells setC 58) = w9 := ⟨_, rfl⟩
          have b42 : Below wd.heap.size wd w42 := by rw [← hw42]; exact balloc1 _ _
          have q42 := bnext hq b42
          have hz42 : w42.heap.size = wd.heap.size + 1 := by rw [← hw42]; exact size_alloc _ _
          have hB42 : Blk wd.heap.size setC 58 w42 := by rw [← hw42]; exact Blk.new _ _ _
          have HT1 := Lib.hid (HT1.out.kept1 b42)
          have HT2 := Lib.hid (HT2.out.kept1 b42)
          have HGG := Lib.hid (HGG.out.kept1 b42)
          have HX := Lib.hid hB42
          have HZ42 := Lib.hid hz42
          have HW42 := Lib.hid hw42
          clear hB42 hz42 hw42
          go_simp
          try rw [HW42.out]
          have HXQ : Hid (wq.heap.size ≤ wd.heap.size) := Lib.hid HWD.out
          have HWD := Lib.hid (Nat.le_trans HWD.out b42.size)
          refine hK.out _ _ (HK5.out _ (q42)) (fun hHeld3 => ?_)
          clear hK K hHeld
          have hHeld := hHeld3
          clear hHeld3
          try simp only [Act.put, List.getElem_toArray, List.getElem_cons_zero, List.getElem_cons_succ, List.setIfInBounds_toArray, List.set_cons_zero, List.set_cons_succ]
          refine wpAnyH_ready (rs := [4]) (by kernel_rfl) (by simp) ?_
          refine AllReadyH.cons (o := _) rfl (fun K hK => ?_) ?_
          · go_simp
            refine (lreading_any (dskF d) bad g w42 HGG.out).mono ?_; rintro e w43 ⟨rfl, hr43, b43⟩
            dsimp only
            have q43 := bnext q42 b43
            have HT1 := Lib.hid (HT1.out.kept1 b43)
            have HT2 := Lib.hid (HT2.out.kept1 b43)
            have HGG := Lib.hid (HGG.out.kept1 b43)
            have HX := Lib.hid (HX.out.kept1 b43)
            have HRR := Lib.hid hr43
            clear hr43
            have HWD := Lib.hid (Nat.le_trans HWD.out b43.size)
            refine hK.out _ _ (HK5.out _ (q43)) (fun hHeld3 => ?_)
            clear hK K hHeld
            have hHeld := hHeld3
            clear hHeld3
            try simp only [Act.put, List.getElem_toArray, List.getElem_cons_zero, List.getElem_cons_succ, List.setIfInBounds_toArray, List.set_cons_zero, List.set_cons_succ]
            refine wpAnyH_ready (rs := [13]) (by kernel_rfl) (by simp) ?_
            refine AllReadyH.cons (o := _) rfl (fun K hK => ?_) ?_
            · go_simp
              have hbw44 := bnext HB5.out (q43)
              have hx44 := RPL.out _ _ _ w43 hbw44.size hbw44 HRR.out HT1.out.le HT1.out
              refine hx44.mono ?_; rintro e w44 ⟨vr, vc, vf2, rfl, hvr, hvc, hvf, hto, hgb, hlen⟩
              dsimp only
              have b44 : Below w5.heap.size w43 w44 := ⟨hgb.os, hgb.tape, hgb.output, hgb.size, fun k hk => hgb.block k (by have := (q43).size; omega) fun e => by cases e; have := HP.out.2.1; have := HP.out.2.2.1; omega⟩
              have q44 := (q43).trans b44
              have HQS44 := Lib.hid hgb.size
              have HWDP := HWD
              have HWD := Lib.hid (Nat.le_trans HWD.out hgb.size)
              have HTOLD := HT1
              have HT1 := Lib.hid hto
              have HT2 := Lib.hid (HT2.out.grown hgb HTOLD.out.le (by have := HP.out.1; omega))
              have HX : Hid (Blk wd.heap.size setC 58 w44) := Lib.hid ((hgb.block _ HX.out.lt fun e => by cases e; have := HXQ.out; have := HP.out; omega).trans HX.out)
              have HVR := Lib.hid (row_down (HWDP.out) hvr)
              have HVC := Lib.hid (row_down (HWDP.out) hvc)
              have HVF2 := Lib.hid (row_down (HWDP.out) hvf)
              obtain ⟨ra9, rc9, rfl, -⟩ := shape_of hvr
              obtain ⟨ca9, cc9, rfl, -⟩ := shape_of hvc
              obtain ⟨fa9, fc9, rfl, -⟩ := shape_of hvf
              have HLEN := Lib.hid hlen
              clear hvr hvc hvf hto hgb hlen
              refine hK.out _ _ (HK5.out _ (q44)) (fun hHeld3 => ?_)
              clear hK K hHeld
              have hHeld := hHeld3
              clear hHeld3
              try simp only [Act.put, List.getElem_toArray, List.getElem_cons_zero, List.getElem_cons_succ, List.setIfInBounds_toArray, List.set_cons_zero, List.set_cons_succ]
              refine wpAnyH_take (i := 14) (oi := _) (v := ?vft45) rfl (by kernel_rfl) (by kernel_rfl) (by kernel_rfl) (fun _ _ _ h => h) (Or.inl ⟨by kernel_rfl, ?hyft45⟩) hHeld ?restft45
              case hyft45 => (intro w9 hSw; clear hSw; go_simp; try with_reducible rfl)
              try simp only [Act.put, List.getElem_toArray, List.getElem_cons_zero, List.getElem_cons_succ, List.setIfInBounds_toArray, List.set_cons_zero, List.set_cons_succ]
              refine wpAnyH_take (i := 15) (oi := _) (v := ?vft46) rfl (by kernel_rfl) (by kernel_rfl) (by kernel_rfl) (fun _ _ _ h => h) (Or.inl ⟨by kernel_rfl, ?hyft46⟩) hHeld ?restft46
              case hyft46 => (intro w9 hSw; clear hSw; go_simp; try with_reducible rfl)
              try simp only [Act.put, List.getElem_toArray, List.getElem_cons_zero, List.getElem_cons_succ, List.setIfInBounds_toArray, List.set_cons_zero, List.set_cons_succ]
              refine wpAnyH_take (i := 16) (oi := _) (v := ?vft47) rfl (by kernel_rfl) (by kernel_rfl) (by kernel_rfl) (fun _ _ _ h => h) (Or.inl ⟨by kernel_rfl, ?hyft47⟩) hHeld ?restft47
              case hyft47 => (intro w9 hSw; clear hSw; go_simp; try with_reducible rfl)
              try simp only [Act.put, List.getElem_toArray, List.getElem_cons_zero, List.getElem_cons_succ, List.setIfInBounds_toArray, List.set_cons_zero, List.set_cons_succ]
              refine wpAnyH_ready (rs := [18]) (by kernel_rfl) (by simp) ?_
              refine AllReadyH.cons (o := _) rfl (fun K hK => ?_) ?_
              · obtain ⟨w48, hw48⟩ : ∃ w9, w44.setRow wd.heap.size #[.int .i64 (dpR R.1), .slice ra9 (rtR R.1).length rc9, .slice ca9 (chR R.1).length cc9, .slice fa9 (frR R.1).length fc9] = w9 := ⟨_, rfl⟩
                have hB48 : Blk wd.heap.size #[.int .i64 (dpR R.1), .slice ra9 (rtR R.1).length rc9, .slice ca9 (chR R.1).length cc9, .slice fa9 (frR R.1).length fc9] 58 w48 := by rw [← hw48]; exact setRow_blk HX.out _
                have g48 : World.grownBy w44 w48 (some wd.heap.size) := by rw [← hw48]; exact ⟨rfl, rfl, rfl, by simp, fun k hk hne => setRow_other _ _ k _ (fun e => hne (by rw [e]))⟩
                have b48 : Below w5.heap.size w44 w48 := by rw [← hw48]; exact setRow_below (by have := HXQ.out; have := (q44).size; have := HP.out; omega) _
                have q48 := (q44).trans b48
                have HVR := Lib.hid (row_grown HVR.out g48 fun q hq e => by cases e; exact absurd (ty_one (own_ty HVR.out hq).1 ⟨_, _, HX.out⟩) (by decide))
                have HVC := Lib.hid (row_grown HVC.out g48 fun q hq e => by cases e; exact absurd (ty_one (own_ty HVC.out hq).1 ⟨_, _, HX.out⟩) (by decide))
                have HVF2 := Lib.hid (row_grown HVF2.out g48 fun q hq e => by cases e; exact absurd (ty_one (own_ty HVF2.out hq).1 ⟨_, _, HX.out⟩) (by decide))
                have HT1 := Lib.hid (HT1.out.grown g48 (by have := HXQ.out; have := HP.out; omega) (by have := HXQ.out; have := HP.out; omega))
                have HT2 := Lib.hid (HT2.out.grown g48 (by have := HXQ.out; have := HP.out; omega) (by have := HXQ.out; have := HP.out; omega))
                have HW48 := Lib.hid hw48
                clear hw48 g48 b48
                rw [if_pos (by kernel_rfl)]
                refine wp_store_row 58 _ _ rfl wd.heap.size #[.int .i64 (dpR R.1), .slice ra9 (rtR R.1).length rc9, .slice ca9 (chR R.1).length cc9, .slice fa9 (frR R.1).length fc9] rfl rfl _ _ HX.out set_sz rfl (by simp [Value.oneCell']) ?_
                rw [HW48.out]
                have HX := Lib.hid hB48
                clear hB48
                refine hK.out _ _ (HK5.out _ (q48)) (fun hHeld3 => ?_)
                clear hK K hHeld
                have hHeld := hHeld3
                clear hHeld3
                try simp only [Act.put, List.getElem_toArray, List.getElem_cons_zero, List.getElem_cons_succ, List.setIfInBounds_toArray, List.set_cons_zero, List.set_cons_succ]
                refine wpAnyH_take (i := 19) (oi := _) (v := ?vft49) rfl (by kernel_rfl) (by kernel_rfl) (by kernel_rfl) (fun _ _ _ h => h) (Or.inl ⟨by kernel_rfl, ?hyft49⟩) hHeld ?restft49
                case hyft49 => (intro w9 hSw; clear hSw; go_simp; try with_reducible rfl)
                try simp only [Act.put, List.getElem_toArray, List.getElem_cons_zero, List.getElem_cons_succ, List.setIfInBounds_toArray, List.set_cons_zero, List.set_cons_succ]
                refine ⟨by kernel_rfl, ?_⟩
                clear hHeld
                have HQ := Lib.hid (q48)
                go_wp2
                go_meet
                case rel => exact ⟨wd.heap.size, _, _, _, rfl, rfl, Lib.hid ⟨HXQ.out, HX.out, HVR.out, HVC.out, HVF2.out, HT1.out, HT2.out, HQ.out, HLEN.out⟩⟩
              exact AllReadyH.nil
            exact AllReadyH.nil
          exact AllReadyH.nil
        exact AllReadyH.nil
      case rest =>
        obtain ⟨X, vr, vc, vf', rfl, rfl, HX⟩ := hcut
        obtain ⟨w7, hw7⟩ : ∃ x, x = wc := ⟨_, rfl⟩
        subst hw7
        obtain ⟨hX1, hX2, hX3, hX4, hX5, hX6, hX7, hX8, hl1, hl2, hl3⟩ := HX.out
        obtain ⟨D, hD⟩ : ∃ D, dpR R.1 = D := ⟨_, rfl⟩
        obtain ⟨EC, hEC⟩ : ∃ D, ecR R.1 = D := ⟨_, rfl⟩
        obtain ⟨RT, hRT⟩ : ∃ D, rtR R.1 = D := ⟨_, rfl⟩
        obtain ⟨CH, hCH⟩ : ∃ D, chR R.1 = D := ⟨_, rfl⟩
        obtain ⟨FR, hFR⟩ : ∃ D, frR R.1 = D := ⟨_, rfl⟩
        obtain ⟨N1, hN1⟩ : ∃ D, R.2 = D := ⟨_, rfl⟩
        rw [hD, hEC, hRT, hCH, hFR, hN1] at RPL
        rw [hD] at hX2
        rw [hRT] at hX3 hl1
        rw [hCH] at hX4 hl2
        rw [hFR] at hX5 hl3
        rw [hN1] at hX6
        rw [hEC]
        clear HX hD hEC hRT hCH hFR hN1
        obtain ⟨ra, rc, rfl, hr2, hr3, hr4⟩ := shape_of hX3
        obtain ⟨ca, cc, rfl, hc2, hc3, hc4⟩ := shape_of hX4
        obtain ⟨fa, fc, rfl, hf2', hf3, hf4⟩ := shape_of hX5
        have hr3 : rc ≤ 9223372036854775807 := hr3
        have hc3 : cc ≤ 9223372036854775807 := hc3
        have hf3 : fc ≤ 9223372036854775807 := hf3
        have HXB := Lib.hid hX2
        have HVR7 := Lib.hid hX3
        have HVC7 := Lib.hid hX4
        have HVF7 := Lib.hid hX5
        have HVR := Lib.hid hX3
        have HVC := Lib.hid hX4
        have HVF2 := Lib.hid hX5
        have HT1 := Lib.hid hX6
        have HT2 := Lib.hid hX7
        have HQ7 := Lib.hid hX8
        have b0 := hX2.cell 0
        have b1 := hX2.cell 1
        have b2 := hX2.cell 2
        have b3 := hX2.cell 3
        simp only [List.getElem?_toArray, List.getElem?_cons_zero, List.getElem?_cons_succ] at b0 b1 b2 b3
        have HR4 := Lib.hid hr4
        have HC4' := Lib.hid hc4
        have HF4 := Lib.hid hf4
        clear hX2 hX3 hX4 hX5 hX6 hX7 hX8 hr4 hc4 hf4
        -- copies
        have a7 := balloc1 w7 (.cells #[] 72)
        have k0 := lit0 w7 72 2
        have c2 := (HXB.out.kept1 a7).cell 2
        simp only [List.getElem?_toArray, List.getElem?_cons_zero, List.getElem?_cons_succ] at c2
        have hvc7 := Lib.hid (row_of_own (row_kept HVC.out a7))
        have K0 := Lib.hid k0
        have A7 := Lib.hid a7
        clear k0 a7 b0 b1 b2 b3
        go_wp2_with (at_builtin; refine wpList_appG rfl _ _ 36 72 rfl Tryz.underlying36 _ 2 24 chg_info rfl (by decide) (by decide) w7.heap.size _ 0 [] rfl K0.out _ CH.length _ rfl hvc7.out (chg_one' CH) (by omega) A7.out.size ?_)
        intro vk w8 hk8 hg8
        have b8 : Below w7.heap.size w7 w8 := A7.out.trans (below_of_row K0.out hg8 A7.out.size)
        have hs78 := b8.size
        have hk8 : ChgsOwn w7.heap.size vk CH w8 := hk8
        have HXB := Lib.hid (HXB.out.kept1 b8)
        have HVR := Lib.hid (row_kept HVR.out b8)
        have HVC := Lib.hid (row_kept HVC.out b8)
        have HVF2 := Lib.hid (row_kept HVF2.out b8)
        have HT1 := Lib.hid (HT1.out.kept1 b8)
        have HT2 := Lib.hid (HT2.out.kept1 b8)
        have HQ8 := Lib.hid (bnext HQ7.out b8)
        have HKC := Lib.hid hk8
        obtain ⟨ka, kc, rfl, -⟩ := shape_of hk8
        clear hk8 hg8 b8 c2 hvc7 K0 A7
        -- the freed ones
        have a8 := balloc1 w8 (.cells #[] 3)
        have k0 := lit0 w8 3 1
        have c3 := (HXB.out.kept1 a8).cell 3
        simp only [List.getElem?_toArray, List.getElem?_cons_zero, List.getElem?_cons_succ] at c3
        have hvf8 := Lib.hid (row_of_own (row_kept HVF2.out a8))
        have K0 := Lib.hid k0
        have A8 := Lib.hid a8
        clear k0 a8
        go_wp2_with (at_builtin; refine wpList_appG rfl _ _ 43 3 rfl Tryz.underlying43 _ 1 8 lint_info rfl (by decide) (by decide) w8.heap.size _ 0 [] rfl K0.out _ FR.length _ rfl hvf8.out (int_one' FR) (by omega) A8.out.size ?_)
        intro vk w9 hk9 hg9
        have b9 : Below w8.heap.size w8 w9 := A8.out.trans (below_of_row K0.out hg9 A8.out.size)
        have hk9 : IntsFk w8.heap.size vk FR w9 := hk9
        have HXB := Lib.hid (HXB.out.kept1 b9)
        have HVR := Lib.hid (row_kept HVR.out b9)
        have HVC := Lib.hid (row_kept HVC.out b9)
        have HVF2 := Lib.hid (row_kept HVF2.out b9)
        have HT1 := Lib.hid (HT1.out.kept1 b9)
        have HT2 := Lib.hid (HT2.out.kept1 b9)
        have HKC := Lib.hid (row_kept HKC.out b9)
        have HQ9 := Lib.hid (bnext HQ8.out b9)
        have HKF := Lib.hid hk9
        have hs89 := b9.size
        obtain ⟨kfa, kfc, rfl, -⟩ := shape_of hk9
        clear hk9 hg9 b9 c3 hvf8 K0 A8
        -- the root
        have a9 := balloc1 w9 (.cells #[] 31)
        have k0 := lit0 w9 31 3
        have c1 := (HXB.out.kept1 a9).cell 1
        simp only [List.getElem?_toArray, List.getElem?_cons_zero, List.getElem?_cons_succ] at c1
        have hvr9 := Lib.hid (row_of_own (row_kept HVR.out a9))
        have K0 := Lib.hid k0
        have A9 := Lib.hid a9
        clear k0 a9
        go_wp2_with (at_builtin; refine wpList_appG rfl _ _ 22 31 rfl Tryz.underlying22 _ 3 24 entry_info rfl (by decide) (by decide) w9.heap.size _ 0 [] rfl K0.out _ RT.length _ rfl hvr9.out (cellsE_one RT) (by omega) A9.out.size ?_)
        intro vk w10 hk10 hg10
        have b10 : Below w9.heap.size w9 w10 := A9.out.trans (below_of_row K0.out hg10 A9.out.size)
        have hk10 : EntsAt w9.heap.size vk RT w10 := hk10
        have HXB := Lib.hid (HXB.out.kept1 b10)
        have HVR := Lib.hid (row_kept HVR.out b10)
        have HVC := Lib.hid (row_kept HVC.out b10)
        have HVF2 := Lib.hid (row_kept HVF2.out b10)
        have HT1 := Lib.hid (HT1.out.kept1 b10)
        have HT2 := Lib.hid (HT2.out.kept1 b10)
        have HKC := Lib.hid (row_kept HKC.out b10)
        have HKF := Lib.hid (row_kept HKF.out b10)
        have HQ10 := Lib.hid (bnext HQ9.out b10)
        have HKR := Lib.hid hk10
        have hs910 := b10.size
        obtain ⟨kra, krc, rfl, -⟩ := shape_of hk10
        clear hk10 hg10 b10 c1 hvr9 K0 A9
        have HCQ : Hid (∀ q, (Value.slice ca CH.length cc).ownBlock = some q → w6.heap.size ≤ q) := Lib.hid fun q hq => (own_ty HVC.out hq).2.2
        have HFQ : Hid (∀ q, (Value.slice fa FR.length fc).ownBlock = some q → w6.heap.size ≤ q) := Lib.hid fun q hq => (own_ty HVF2.out hq).2.2
        have HRQ : Hid (∀ q, (Value.slice ra RT.length rc).ownBlock = some q → w6.heap.size ≤ q) := Lib.hid fun q hq => (own_ty HVR.out hq).2.2
        go_wp2
        go_loopw [15] (fun p wr => ∃ (k : Nat) (xs : List Value), p = .int .i64 k ∧ k ≤ CH.length ∧ wr.ownsRow w6.heap.size 72 2 (.slice ca CH.length cc) CH.length xs ∧ w10.grownBy wr (Value.ownBlock (.slice ca CH.length cc))) (fun p _ => CH.length - (intOf p).toNat)
        case atStart => exact ⟨0, _, rfl, Nat.zero_le _, HVC.out, grown_refl' _ _⟩
        case round =>
          obtain ⟨k, xs, rfl, hk, hx, hg⟩ := hrel
          have hkx := blk_grown HXB.out hg (ty_ne HVC.out ⟨_, _, HXB.out⟩ (by decide))
          have hcl := hkx.cell 2
          simp only [List.getElem?_toArray, List.getElem?_cons_zero, List.getElem?_cons_succ] at hcl
          by_cases hlt : k < CH.length
          · obtain ⟨g', rfl, hgB, hgl⟩ := HC4'.out (by omega)
            have hxl := hx.1
            have e0 : wr.cell? ⟨g', k * 2, none⟩ = some (xs[k * 2]'(by omega)) := (hx.cellAt _ (by omega)).trans (List.getElem?_eq_getElem _)
            have f0 := hx.frozenAt (k * 2)
            have e1 : wr.cell? ⟨g', k * 2 + 1, none⟩ = some (xs[k * 2 + 1]'(by omega)) := (hx.cellAt _ (by omega)).trans (List.getElem?_eq_getElem _)
            have f1 := hx.frozenAt (k * 2 + 1)
            have s0' := (hx.stored (k * 2) (.int .i64 (-9))).1
            have s1' := (s0'.stored (k * 2 + 1) (.string ⟨#[]⟩)).1
            have hg3 := grown_set' (grown_set' hg (k * 2) (.int .i64 (-9))) (k * 2 + 1) (.string ⟨#[]⟩)
            generalize xs[k * 2]'(by omega) = y0 at *
            generalize xs[k * 2 + 1]'(by omega) = y1 at *
            have HS3 := Lib.hid s1'
            have HG3 := Lib.hid hg3
            clear hx s0' s1' hg hg3 hkx
            go_wp2
            exact ⟨⟨k + 1, _, by go_num, by omega, HS3.out, HG3.out⟩, by simp [intOf]; omega⟩
          · obtain rfl : k = CH.length := by omega
            obtain ⟨w11, hww11⟩ : ∃ x, x = wr := ⟨_, rfl⟩
            subst hww11
            have HVR := Lib.hid (row_grown HVR.out hg (rows_ne HVR.out HVC.out (by decide)))
            have HVF2 := Lib.hid (row_grown HVF2.out hg (rows_ne HVF2.out HVC.out (by decide)))
            have HKC := Lib.hid (row_grown HKC.out hg (rows_later HKC.out HVC7.out (by omega)))
            have HKF := Lib.hid (row_grown HKF.out hg (rows_ne HKF.out HVC.out (by decide)))
            have HKR := Lib.hid (row_grown HKR.out hg (rows_ne HKR.out HVC.out (by decide)))
            have HT1 := Lib.hid (HT1.out.grownR hg (fun q hq => by have := HCQ.out q hq; have := HP.out; omega) (ty_ne HVC.out ⟨_, _, HT1.out.b⟩ (by decide)))
            have HT2 := Lib.hid (HT2.out.grownR hg (fun q hq => by have := HCQ.out q hq; have := HP.out; omega) (ty_ne HVC.out ⟨_, _, HT2.out.b⟩ (by decide)))
            have HQ10 := Lib.hid (HQ10.out.trans (grown_below hg (by have := HQ10.out.size; omega) fun q hq => by have := HCQ.out q hq; have := HP.out; omega))
            have HXB := Lib.hid (hkx)
            clear hx hg hkx hlt hk
            go_wp2
            go_loopw [16] (fun p wr => ∃ (k : Nat) (xs : List Value), p = .int .i64 k ∧ k ≤ FR.length ∧ wr.ownsRow w6.heap.size 3 1 (.slice fa FR.length fc) FR.length xs ∧ w11.grownBy wr (Value.ownBlock (.slice fa FR.length fc))) (fun p _ => FR.length - (intOf p).toNat)
            case atStart => exact ⟨0, _, rfl, Nat.zero_le _, HVF2.out, grown_refl' _ _⟩
            case round =>
              obtain ⟨k, xs, rfl, hk, hx, hg⟩ := hrel
              have hkx := blk_grown HXB.out hg (ty_ne HVF2.out ⟨_, _, HXB.out⟩ (by decide))
              have hcl := hkx.cell 3
              simp only [List.getElem?_toArray, List.getElem?_cons_zero, List.getElem?_cons_succ] at hcl
              by_cases hlt : k < FR.length
              · obtain ⟨g', rfl, hgB, hgl⟩ := HF4.out (by omega)
                have hxl := hx.1
                have e0 : wr.cell? ⟨g', k, none⟩ = some (xs[k]'(by omega)) := (hx.cellAt _ (by omega)).trans (List.getElem?_eq_getElem _)
                have f0 := hx.frozenAt (k)
                have s0' := (hx.stored (k) (.int .i64 (-9))).1
                have hg3 := grown_set' hg (k) (.int .i64 (-9))
                generalize xs[k]'(by omega) = y0 at *
                have HS3 := Lib.hid s0'
                have HG3 := Lib.hid hg3
                clear hx s0' hg hg3 hkx
                go_wp2
                exact ⟨⟨k + 1, _, by go_num, by omega, HS3.out, HG3.out⟩, by simp [intOf]; omega⟩
              · obtain rfl : k = FR.length := by omega
                obtain ⟨w12, hww12⟩ : ∃ x, x = wr := ⟨_, rfl⟩
                subst hww12
                have HVR := Lib.hid (row_grown HVR.out hg (rows_ne HVR.out HVF2.out (by decide)))
                have HKC := Lib.hid (row_grown HKC.out hg (rows_ne HKC.out HVF2.out (by decide)))
                have HKF := Lib.hid (row_grown HKF.out hg (rows_later HKF.out HVF7.out (by omega)))
                have HKR := Lib.hid (row_grown HKR.out hg (rows_ne HKR.out HVF2.out (by decide)))
                have HT1 := Lib.hid (HT1.out.grownR hg (fun q hq => by have := HFQ.out q hq; have := HP.out; omega) (ty_ne HVF2.out ⟨_, _, HT1.out.b⟩ (by decide)))
                have HT2 := Lib.hid (HT2.out.grownR hg (fun q hq => by have := HFQ.out q hq; have := HP.out; omega) (ty_ne HVF2.out ⟨_, _, HT2.out.b⟩ (by decide)))
                have HQ10 := Lib.hid (HQ10.out.trans (grown_below hg (by have := HQ10.out.size; omega) fun q hq => by have := HFQ.out q hq; have := HP.out; omega))
                have HXB := Lib.hid (hkx)
                clear hx hg hkx hlt hk
                go_wp2
                go_loopw [17] (fun p wr => ∃ (k : Nat) (xs : List Value), p = .int .i64 k ∧ k ≤ RT.length ∧ wr.ownsRow w6.heap.size 31 3 (.slice ra RT.length rc) RT.length xs ∧ w12.grownBy wr (Value.ownBlock (.slice ra RT.length rc))) (fun p _ => RT.length - (intOf p).toNat)
                case atStart => exact ⟨0, _, rfl, Nat.zero_le _, HVR.out, grown_refl' _ _⟩
                case round =>
                  obtain ⟨k, xs, rfl, hk, hx, hg⟩ := hrel
                  have hkx := blk_grown HXB.out hg (ty_ne HVR.out ⟨_, _, HXB.out⟩ (by decide))
                  have hcl := hkx.cell 1
                  simp only [List.getElem?_toArray, List.getElem?_cons_zero, List.getElem?_cons_succ] at hcl
                  by_cases hlt : k < RT.length
                  · obtain ⟨g', rfl, hgB, hgl⟩ := HR4.out (by omega)
                    have hxl := hx.1
                    have e0 : wr.cell? ⟨g', k * 3, none⟩ = some (xs[k * 3]'(by omega)) := (hx.cellAt _ (by omega)).trans (List.getElem?_eq_getElem _)
                    have f0 := hx.frozenAt (k * 3)
                    have e1 : wr.cell? ⟨g', k * 3 + 1, none⟩ = some (xs[k * 3 + 1]'(by omega)) := (hx.cellAt _ (by omega)).trans (List.getElem?_eq_getElem _)
                    have f1 := hx.frozenAt (k * 3 + 1)
                    have e2 : wr.cell? ⟨g', k * 3 + 2, none⟩ = some (xs[k * 3 + 2]'(by omega)) := (hx.cellAt _ (by omega)).trans (List.getElem?_eq_getElem _)
                    have f2 := hx.frozenAt (k * 3 + 2)
                    have s0' := (hx.stored (k * 3) (.int .i64 0)).1
                    have s1' := (s0'.stored (k * 3 + 1) (.int .i64 0)).1
                    have s2' := (s1'.stored (k * 3 + 2) (.int .i64 (-9))).1
                    have hg3 := grown_set' (grown_set' (grown_set' hg (k * 3) (.int .i64 0)) (k * 3 + 1) (.int .i64 0)) (k * 3 + 2) (.int .i64 (-9))
                    generalize xs[k * 3]'(by omega) = y0 at *
                    generalize xs[k * 3 + 1]'(by omega) = y1 at *
                    generalize xs[k * 3 + 2]'(by omega) = y2 at *
                    have HS3 := Lib.hid s2'
                    have HG3 := Lib.hid hg3
                    clear hx s0' s1' s2' hg hg3 hkx
                    go_wp2
                    exact ⟨⟨k + 1, _, by go_num, by omega, HS3.out, HG3.out⟩, by simp [intOf]; omega⟩
                  · obtain rfl : k = RT.length := by omega
                    obtain ⟨w13, hww13⟩ : ∃ x, x = wr := ⟨_, rfl⟩
                    subst hww13
                    have HKC := Lib.hid (row_grown HKC.out hg (rows_ne HKC.out HVR.out (by decide)))
                    have HKF := Lib.hid (row_grown HKF.out hg (rows_ne HKF.out HVR.out (by decide)))
                    have HKR := Lib.hid (row_grown HKR.out hg (rows_later HKR.out HVR7.out (by omega)))
                    have HT1 := Lib.hid (HT1.out.grownR hg (fun q hq => by have := HRQ.out q hq; have := HP.out; omega) (ty_ne HVR.out ⟨_, _, HT1.out.b⟩ (by decide)))
                    have HT2 := Lib.hid (HT2.out.grownR hg (fun q hq => by have := HRQ.out q hq; have := HP.out; omega) (ty_ne HVR.out ⟨_, _, HT2.out.b⟩ (by decide)))
                    have HQ10 := Lib.hid (HQ10.out.trans (grown_below hg (by have := HQ10.out.size; omega) fun q hq => by have := HRQ.out q hq; have := HP.out; omega))
                    have HXB := Lib.hid (hkx)
                    clear hx hg hkx hlt hk
                    go_upto_region 21 with fail
                    have hw13 := HQ10.out.size
                    have hXlt := HXB.out.lt
                    have hGX := HG.out.kept1 HQ10.out
                    have HGG0 := Lib.hid hGX
                    go_cut [18, 19] (fun u1 u2 wx => ∃ (Y : Nat) (vr vc vf' : Value), u1 = .pointer (some ⟨Y, 0, none⟩) ∧ u2 = .int .i64 EC ∧ Hid (Blk Y #[.int .i64 D, vr, vc, vf'] 58 wx ∧ EntsAt w13.heap.size vr RT wx ∧ ChgsOwn w13.heap.size vc CH wx ∧ IntsFk w13.heap.size vf' FR wx ∧ ToldI w.heap.size p1 (.slice af F.length cf) F N1 wx ∧ ToldI w.heap.size p2 (.slice af F.length cf) F N1 wx ∧ Below w5.heap.size w5 wx ∧ Blk X #[.int .i64 D, .slice ra RT.length rc, .slice ca CH.length cc, .slice fa FR.length fc] 58 wx ∧ ChgsOwn w7.heap.size (.slice ka CH.length kc) CH wx ∧ IntsFk w8.heap.size (.slice kfa FR.length kfc) FR wx ∧ EntsAt w9.heap.size (.slice kra RT.length krc) RT wx))
                    case first =>
                      obtain ⟨wq, hwq⟩ : ∃ x, x = w13 := ⟨_, rfl⟩
                      subst hwq
                      have hq : Below w5.heap.size w5 wq.drew := HQ10.out.drew
                      have HT1 := Lib.hid (HT1.out.kept1 (Below.refl _ _).drew)
                      have HT2 := Lib.hid (HT2.out.kept1 (Below.refl _ _).drew)
                      have HGG := Lib.hid (HGG0.out.kept1 (Below.refl _ _).drew)
                      have HXB := Lib.hid (HXB.out.kept1 (Below.refl _ _).drew)
                      have HKC := Lib.hid (row_kept HKC.out (Below.refl _ _).drew)
                      have HKF := Lib.hid (row_kept HKF.out (Below.refl _ _).drew)
                      have HKR := Lib.hid (row_kept HKR.out (Below.refl _ _).drew)
                      have HWD : Hid (wq.heap.size ≤ wq.drew.heap.size) := Lib.hid (Nat.le_refl _)
                      refine wp_region_held_drew (S := fun w9 => w9.cell? ⟨w.heap.size, 0, none⟩ = some (.int .i64 dp) ∧ w9.cell? ⟨w.heap.size, 1, none⟩ = some (.slice at' root.length ct) ∧ w9.cell? ⟨w.heap.size + 1, 1, none⟩ = some (.int .i64 bad) ∧ w9.cell? ⟨w.heap.size + 1 + 1, 0, none⟩ = some (.int .i64 a) ∧ w9.cell? ⟨w.heap.size + 1 + 1, 1, none⟩ = some (.int .i64 t) ∧ w9.cell? ⟨w.heap.size + 1 + 1, 2, none⟩ = some (.slice al L.length cl)) mixed (HK5.out _ (hq)) (fun hHeld => ?_)
                      generalize wq.drew = wd at *
                      refine wpAnyH_take (i := 0) (oi := _) (v := ?vfu50) rfl (by kernel_rfl) (by kernel_rfl) (by kernel_rfl) (fun _ _ _ h => h) (Or.inl ⟨by kernel_rfl, ?hyfu50⟩) hHeld ?restfu50
                      case hyfu50 => (intro w9 hSw; obtain ⟨e1, e2, e3, e4, e5, e6⟩ := hSw; go_simp; try with_reducible rfl)
                      try simp only [Act.put, List.getElem_toArray, List.getElem_cons_zero, List.getElem_cons_succ, List.setIfInBounds_toArray, List.set_cons_zero, List.set_cons_succ]
                      refine wpAnyH_take (i := 1) (oi := _) (v := ?vfu51) rfl (by kernel_rfl) (by kernel_rfl) (by kernel_rfl) (fun _ _ _ h => h) (Or.inl ⟨by kernel_rfl, ?hyfu51⟩) hHeld ?restfu51
                      case hyfu51 => (intro w9 hSw; clear hSw; go_simp; try with_reducible rfl)
                      try simp only [Act.put, List.getElem_toArray, List.getElem_cons_zero, List.getElem_cons_succ, List.setIfInBounds_toArray, List.set_cons_zero, List.set_cons_succ]
                      refine wpAnyH_take (i := 2) (oi := _) (v := ?vfu52) rfl (by kernel_rfl) (by kernel_rfl) (by kernel_rfl) (fun _ _ _ h => h) (Or.inl ⟨by kernel_rfl, ?hyfu52⟩) hHeld ?restfu52
                      case hyfu52 => (intro w9 hSw; clear hSw; go_simp; try with_reducible rfl)
                      try simp only [Act.put, List.getElem_toArray, List.getElem_cons_zero, List.getElem_cons_succ, List.setIfInBounds_toArray, List.set_cons_zero, List.set_cons_succ]
                      refine wpAnyH_take (i := 3) (oi := _) (v := ?vfu53) rfl (by kernel_rfl) (by kernel_rfl) (by kernel_rfl) (fun _ _ _ h => h) (Or.inl ⟨by kernel_rfl, ?hyfu53⟩) hHeld ?restfu53
                      case hyfu53 => (intro w9 hSw; obtain ⟨e1, e2, e3, e4, e5, e6⟩ := hSw; go_simp; try with_reducible rfl)
                      try simp only [Act.put, List.getElem_toArray, List.getElem_cons_zero, List.getElem_cons_succ, List.setIfInBounds_toArray, List.set_cons_zero, List.set_cons_succ]
                      refine wpAnyH_take (i := 5) (oi := _) (v := ?vfu54) rfl (by kernel_rfl) (by kernel_rfl) (by kernel_rfl) (fun _ _ _ h => h) (Or.inl ⟨by kernel_rfl, ?hyfu54⟩) hHeld ?restfu54
                      case hyfu54 => (intro w9 hSw; clear hSw; go_simp; try with_reducible rfl)
                      try simp only [Act.put, List.getElem_toArray, List.getElem_cons_zero, List.getElem_cons_succ, List.setIfInBounds_toArray, List.set_cons_zero, List.set_cons_succ]
                      refine wpAnyH_take (i := 6) (oi := _) (v := ?vfu55) rfl (by kernel_rfl) (by kernel_rfl) (by kernel_rfl) (fun _ _ _ h => h) (Or.inl ⟨by kernel_rfl, ?hyfu55⟩) hHeld ?restfu55
                      case hyfu55 => (intro w9 hSw; obtain ⟨e1, e2, e3, e4, e5, e6⟩ := hSw; go_simp; try with_reducible rfl)
                      try simp only [Act.put, List.getElem_toArray, List.getElem_cons_zero, List.getElem_cons_succ, List.setIfInBounds_toArray, List.set_cons_zero, List.set_cons_succ]
                      refine wpAnyH_take (i := 7) (oi := _) (v := ?vfu56) rfl (by kernel_rfl) (by kernel_rfl) (by kernel_rfl) (fun _ _ _ h => h) (Or.inl ⟨by kernel_rfl, ?hyfu56⟩) hHeld ?restfu56
                      case hyfu56 => (intro w9 hSw; clear hSw; go_simp; try with_reducible rfl)
                      try simp only [Act.put, List.getElem_toArray, List.getElem_cons_zero, List.getElem_cons_succ, List.setIfInBounds_toArray, List.set_cons_zero, List.set_cons_succ]
                      refine wpAnyH_take (i := 8) (oi := _) (v := ?vfu57) rfl (by kernel_rfl) (by kernel_rfl) (by kernel_rfl) (fun _ _ _ h => h) (Or.inl ⟨by kernel_rfl, ?hyfu57⟩) hHeld ?restfu57
                      case hyfu57 => (intro w9 hSw; obtain ⟨e1, e2, e3, e4, e5, e6⟩ := hSw; go_simp; try with_reducible rfl)
                      try simp only [Act.put, List.getElem_toArray, List.getElem_cons_zero, List.getElem_cons_succ, List.setIfInBounds_toArray, List.set_cons_zero, List.set_cons_succ]
                      refine wpAnyH_take (i := 9) (oi := _) (v := ?vfu58) rfl (by kernel_rfl) (by kernel_rfl) (by kernel_rfl) (fun _ _ _ h => h) (Or.inl ⟨by kernel_rfl, ?hyfu58⟩) hHeld ?restfu58
                      case hyfu58 => (intro w9 hSw; clear hSw; go_simp; try with_reducible rfl)
                      try simp only [Act.put, List.getElem_toArray, List.getElem_cons_zero, List.getElem_cons_succ, List.setIfInBounds_toArray, List.set_cons_zero, List.set_cons_succ]
                      refine wpAnyH_take (i := 10) (oi := _) (v := ?vfu59) rfl (by kernel_rfl) (by kernel_rfl) (by kernel_rfl) (fun _ _ _ h => h) (Or.inl ⟨by kernel_rfl, ?hyfu59⟩) hHeld ?restfu59
                      case hyfu59 => (intro w9 hSw; obtain ⟨e1, e2, e3, e4, e5, e6⟩ := hSw; go_simp; try with_reducible rfl)
                      try simp only [Act.put, List.getElem_toArray, List.getElem_cons_zero, List.getElem_cons_succ, List.setIfInBounds_toArray, List.set_cons_zero, List.set_cons_succ]
                      refine wpAnyH_take (i := 11) (oi := _) (v := ?vfu60) rfl (by kernel_rfl) (by kernel_rfl) (by kernel_rfl) (fun _ _ _ h => h) (Or.inl ⟨by kernel_rfl, ?hyfu60⟩) hHeld ?restfu60
                      case hyfu60 => (intro w9 hSw; clear hSw; go_simp; try with_reducible rfl)
                      try simp only [Act.put, List.getElem_toArray, List.getElem_cons_zero, List.getElem_cons_succ, List.setIfInBounds_toArray, List.set_cons_zero, List.set_cons_succ]
                      refine wpAnyH_take (i := 12) (oi := _) (v := ?vfu61) rfl (by kernel_rfl) (by kernel_rfl) (by kernel_rfl) (fun _ _ _ h => h) (Or.inl ⟨by kernel_rfl, ?hyfu61⟩) hHeld ?restfu61
                      case hyfu61 => (intro w9 hSw; clear hSw; go_simp; try with_reducible rfl)
                      try simp only [Act.put, List.getElem_toArray, List.getElem_cons_zero, List.getElem_cons_succ, List.setIfInBounds_toArray, List.set_cons_zero, List.set_cons_succ]
                      refine wpAnyH_ready (rs := [4, 17]) (by kernel_rfl) (by simp) ?_
                      refine AllReadyH.cons (o := _) rfl (fun K hK => ?_) ?_
                      · go_simp
                        refine (lreading_any (dskF d) bad g wd HGG.out).mono ?_; rintro e w62 ⟨rfl, hr62, b62⟩
                        dsimp only
                        have q62 := bnext hq b62
                        have HT1 := Lib.hid (HT1.out.kept1 b62)
                        have HT2 := Lib.hid (HT2.out.kept1 b62)
                        have HGG := Lib.hid (HGG.out.kept1 b62)
                        have HXB := Lib.hid (HXB.out.kept1 b62)
                        have HKC := Lib.hid (row_kept HKC.out b62)
                        have HKF := Lib.hid (row_kept HKF.out b62)
                        have HKR := Lib.hid (row_kept HKR.out b62)
                        have HRR := Lib.hid hr62
                        clear hr62
                        have HWD := Lib.hid (Nat.le_trans HWD.out b62.size)
                        refine hK.out _ _ (HK5.out _ (q62)) (fun hHeld3 => ?_)
                        clear hK K hHeld
                        have hHeld := hHeld3
                        clear hHeld3
                        try simp only [Act.put, List.getElem_toArray, List.getElem_cons_zero, List.getElem_cons_succ, List.setIfInBounds_toArray, List.set_cons_zero, List.set_cons_succ]
                        refine wpAnyH_ready (rs := [13, 17]) (by kernel_rfl) (by simp) ?_
                        refine AllReadyH.cons (o := _) rfl (fun K hK => ?_) ?_
                        · go_simp
                          have hbw63 := bnext HB5.out (q62)
                          have hx63 := RPL.out _ _ _ w62 hbw63.size hbw63 HRR.out HT2.out.le HT2.out
                          refine hx63.mono ?_; rintro e w63 ⟨vr, vc, vf2, rfl, hvr, hvc, hvf, hto, hgb, hlen⟩
                          dsimp only
                          have b63 : Below w5.heap.size w62 w63 := ⟨hgb.os, hgb.tape, hgb.output, hgb.size, fun k hk => hgb.block k (by have := (q62).size; omega) fun e => by cases e; have := HP.out.2.1; have := HP.out.2.2.1; omega⟩
                          have q63 := (q62).trans b63
                          have HQS63 := Lib.hid hgb.size
                          have HWDP := HWD
                          have HWD := Lib.hid (Nat.le_trans HWD.out hgb.size)
                          have HTOLD := HT2
                          have HT2 := Lib.hid hto
                          have HT1 := Lib.hid (HT1.out.grown hgb HTOLD.out.le (by have := HP.out.1; omega))
                          have HXB := Lib.hid (blk_grown HXB.out hgb fun e => by cases e; exact absurd (ty_one ⟨_, _, HXB.out⟩ ⟨_, _, HTOLD.out.b⟩) (by decide))
                          have HKC := Lib.hid (row_grown HKC.out hgb fun q hq e => by cases e; exact absurd (ty_one (own_ty HKC.out hq).1 ⟨_, _, HTOLD.out.b⟩) (by decide))
                          have HKF := Lib.hid (row_grown HKF.out hgb fun q hq e => by cases e; exact absurd (ty_one (own_ty HKF.out hq).1 ⟨_, _, HTOLD.out.b⟩) (by decide))
                          have HKR := Lib.hid (row_grown HKR.out hgb fun q hq e => by cases e; exact absurd (ty_one (own_ty HKR.out hq).1 ⟨_, _, HTOLD.out.b⟩) (by decide))
                          have HVR := Lib.hid (row_down (HWDP.out) hvr)
                          have HVC := Lib.hid (row_down (HWDP.out) hvc)
                          have HVF2 := Lib.hid (row_down (HWDP.out) hvf)
                          obtain ⟨ra9, rc9, rfl, -⟩ := shape_of hvr
                          obtain ⟨ca9, cc9, rfl, -⟩ := shape_of hvc
                          obtain ⟨fa9, fc9, rfl, -⟩ := shape_of hvf
                          have HLEN := Lib.hid hlen
                          clear hvr hvc hvf hto hgb hlen
                          refine hK.out _ _ (HK5.out _ (q63)) (fun hHeld3 => ?_)
                          clear hK K hHeld
                          have hHeld := hHeld3
                          clear hHeld3
                          try simp only [Act.put, List.getElem_toArray, List.getElem_cons_zero, List.getElem_cons_succ, List.setIfInBounds_toArray, List.set_cons_zero, List.set_cons_succ]
                          refine wpAnyH_take (i := 14) (oi := _) (v := ?vfu64) rfl (by kernel_rfl) (by kernel_rfl) (by kernel_rfl) (fun _ _ _ h => h) (Or.inl ⟨by kernel_rfl, ?hyfu64⟩) hHeld ?restfu64
                          case hyfu64 => (intro w9 hSw; clear hSw; go_simp; try with_reducible rfl)
                          try simp only [Act.put, List.getElem_toArray, List.getElem_cons_zero, List.getElem_cons_succ, List.setIfInBounds_toArray, List.set_cons_zero, List.set_cons_succ]
                          refine wpAnyH_take (i := 15) (oi := _) (v := ?vfu65) rfl (by kernel_rfl) (by kernel_rfl) (by kernel_rfl) (fun _ _ _ h => h) (Or.inl ⟨by kernel_rfl, ?hyfu65⟩) hHeld ?restfu65
                          case hyfu65 => (intro w9 hSw; clear hSw; go_simp; try with_reducible rfl)
                          try simp only [Act.put, List.getElem_toArray, List.getElem_cons_zero, List.getElem_cons_succ, List.setIfInBounds_toArray, List.set_cons_zero, List.set_cons_succ]
                          refine wpAnyH_take (i := 16) (oi := _) (v := ?vfu66) rfl (by kernel_rfl) (by kernel_rfl) (by kernel_rfl) (fun _ _ _ h => h) (Or.inl ⟨by kernel_rfl, ?hyfu66⟩) hHeld ?restfu66
                          case hyfu66 => (intro w9 hSw; clear hSw; go_simp; try with_reducible rfl)
                          try simp only [Act.put, List.getElem_toArray, List.getElem_cons_zero, List.getElem_cons_succ, List.setIfInBounds_toArray, List.set_cons_zero, List.set_cons_succ]
                          refine wpAnyH_ready (rs := [17]) (by kernel_rfl) (by simp) ?_
                          refine AllReadyH.cons (o := _) rfl (fun K hK => ?_) ?_
                          · obtain ⟨w67, hw67⟩ : ∃ w9, w63.alloc (.cells setC 58) = w9 := ⟨_, rfl⟩
                            have b67 : Below w63.heap.size w63 w67 := by rw [← hw67]; exact balloc1 _ _
                            have q67 := bnext q63 b67
                            have hz67 : w67.heap.size = w63.heap.size + 1 := by rw [← hw67]; exact size_alloc _ _
                            have hB67 : Blk w63.heap.size setC 58 w67 := by rw [← hw67]; exact Blk.new _ _ _
                            have HT2 := Lib.hid (HT2.out.kept1 b67)
                            have HT1 := Lib.hid (HT1.out.kept1 b67)
                            have HXB := Lib.hid (HXB.out.kept1 b67)
                            have HKC := Lib.hid (row_kept HKC.out b67)
                            have HKF := Lib.hid (row_kept HKF.out b67)
                            have HKR := Lib.hid (row_kept HKR.out b67)
                            have HVR := Lib.hid (row_kept HVR.out b67)
                            have HVC := Lib.hid (row_kept HVC.out b67)
                            have HVF2 := Lib.hid (row_kept HVF2.out b67)
                            have HX := Lib.hid hB67
                            have HZ67 := Lib.hid hz67
                            have HW67 := Lib.hid hw67
                            clear hB67 hz67 hw67
                            go_simp
                            try rw [HW67.out]
                            have HXQ : Hid (wq.heap.size ≤ w63.heap.size) := Lib.hid HWD.out
                            have HWD := Lib.hid (Nat.le_trans HWD.out b67.size)
                            refine hK.out _ _ (HK5.out _ (q67)) (fun hHeld3 => ?_)
                            clear hK K hHeld
                            have hHeld := hHeld3
                            clear hHeld3
                            try simp only [Act.put, List.getElem_toArray, List.getElem_cons_zero, List.getElem_cons_succ, List.setIfInBounds_toArray, List.set_cons_zero, List.set_cons_succ]
                            refine wpAnyH_ready (rs := [18]) (by kernel_rfl) (by simp) ?_
                            refine AllReadyH.cons (o := _) rfl (fun K hK => ?_) ?_
                            · obtain ⟨w68, hw68⟩ : ∃ w9, w67.setRow w63.heap.size #[.int .i64 (D), .slice ra9 (RT).length rc9, .slice ca9 (CH).length cc9, .slice fa9 (FR).length fc9] = w9 := ⟨_, rfl⟩
                              have hB68 : Blk w63.heap.size #[.int .i64 (D), .slice ra9 (RT).length rc9, .slice ca9 (CH).length cc9, .slice fa9 (FR).length fc9] 58 w68 := by rw [← hw68]; exact setRow_blk HX.out _
                              have g68 : World.grownBy w67 w68 (some w63.heap.size) := by rw [← hw68]; exact ⟨rfl, rfl, rfl, by simp, fun k hk hne => setRow_other _ _ k _ (fun e => hne (by rw [e]))⟩
                              have b68 : Below w5.heap.size w67 w68 := by rw [← hw68]; exact setRow_below (by have := HXQ.out; have := (q67).size; have := HP.out; omega) _
                              have q68 := (q67).trans b68
                              have HVR := Lib.hid (row_grown HVR.out g68 fun q hq e => by cases e; exact absurd (ty_one (own_ty HVR.out hq).1 ⟨_, _, HX.out⟩) (by decide))
                              have HVC := Lib.hid (row_grown HVC.out g68 fun q hq e => by cases e; exact absurd (ty_one (own_ty HVC.out hq).1 ⟨_, _, HX.out⟩) (by decide))
                              have HVF2 := Lib.hid (row_grown HVF2.out g68 fun q hq e => by cases e; exact absurd (ty_one (own_ty HVF2.out hq).1 ⟨_, _, HX.out⟩) (by decide))
                              have HT1 := Lib.hid (HT1.out.grown g68 (by have := HXQ.out; have := HP.out; omega) (by have := HXQ.out; have := HP.out; omega))
                              have HT2 := Lib.hid (HT2.out.grown g68 (by have := HXQ.out; have := HP.out; omega) (by have := HXQ.out; have := HP.out; omega))
                              have HXB := Lib.hid (blk_grown HXB.out g68 fun e => by cases e; have := HXQ.out; omega)
                              have HKC := Lib.hid (row_grown HKC.out g68 fun q hq e => by cases e; exact absurd (ty_one (own_ty HKC.out hq).1 ⟨_, _, HX.out⟩) (by decide))
                              have HKF := Lib.hid (row_grown HKF.out g68 fun q hq e => by cases e; exact absurd (ty_one (own_ty HKF.out hq).1 ⟨_, _, HX.out⟩) (by decide))
                              have HKR := Lib.hid (row_grown HKR.out g68 fun q hq e => by cases e; exact absurd (ty_one (own_ty HKR.out hq).1 ⟨_, _, HX.out⟩) (by decide))
                              have HW68 := Lib.hid hw68
                              clear hw68 g68 b68
                              rw [if_pos (by kernel_rfl)]
                              refine wp_store_row 58 _ _ rfl w63.heap.size #[.int .i64 (D), .slice ra9 (RT).length rc9, .slice ca9 (CH).length cc9, .slice fa9 (FR).length fc9] rfl rfl _ _ HX.out set_sz rfl (by simp [Value.oneCell']) ?_
                              rw [HW68.out]
                              have HX := Lib.hid hB68
                              clear hB68
                              refine hK.out _ _ (HK5.out _ (q68)) (fun hHeld3 => ?_)
                              clear hK K hHeld
                              have hHeld := hHeld3
                              clear hHeld3
                              try simp only [Act.put, List.getElem_toArray, List.getElem_cons_zero, List.getElem_cons_succ, List.setIfInBounds_toArray, List.set_cons_zero, List.set_cons_succ]
                              refine wpAnyH_take (i := 19) (oi := _) (v := ?vfu69) rfl (by kernel_rfl) (by kernel_rfl) (by kernel_rfl) (fun _ _ _ h => h) (Or.inl ⟨by kernel_rfl, ?hyfu69⟩) hHeld ?restfu69
                              case hyfu69 => (intro w9 hSw; clear hSw; go_simp; try with_reducible rfl)
                              try simp only [Act.put, List.getElem_toArray, List.getElem_cons_zero, List.getElem_cons_succ, List.setIfInBounds_toArray, List.set_cons_zero, List.set_cons_succ]
                              refine ⟨by kernel_rfl, ?_⟩
                              clear hHeld
                              have HQ := Lib.hid (q68)
                              go_wp2
                              go_meet
                              case rel => exact ⟨w63.heap.size, _, _, _, rfl, rfl, Lib.hid ⟨HX.out, HVR.out, HVC.out, HVF2.out, HT1.out, HT2.out, HQ.out, HXB.out, HKC.out, HKF.out, HKR.out⟩⟩
                            exact AllReadyH.nil
                          exact AllReadyH.nil
                        refine AllReadyH.cons (o := _) rfl (fun K hK => ?_) ?_
                        · obtain ⟨w70, hw70⟩ : ∃ w9, w62.alloc (.cells setC 58) = w9 := ⟨_, rfl⟩
                          have b70 : Below w62.heap.size w62 w70 := by rw [← hw70]; exact balloc1 _ _
                          have q70 := bnext q62 b70
                          have hz70 : w70.heap.size = w62.heap.size + 1 := by rw [← hw70]; exact size_alloc _ _
                          have hB70 : Blk w62.heap.size setC 58 w70 := by rw [← hw70]; exact Blk.new _ _ _
                          have HT1 := Lib.hid (HT1.out.kept1 b70)
                          have HT2 := Lib.hid (HT2.out.kept1 b70)
                          have HGG := Lib.hid (HGG.out.kept1 b70)
                          have HXB := Lib.hid (HXB.out.kept1 b70)
                          have HKC := Lib.hid (row_kept HKC.out b70)
                          have HKF := Lib.hid (row_kept HKF.out b70)
                          have HKR := Lib.hid (row_kept HKR.out b70)
                          have HRR := Lib.hid (HRR.out.kept1 b70)
                          have HX := Lib.hid hB70
                          have HZ70 := Lib.hid hz70
                          have HW70 := Lib.hid hw70
                          clear hB70 hz70 hw70
                          go_simp
                          try rw [HW70.out]
                          have HXQ : Hid (wq.heap.size ≤ w62.heap.size) := Lib.hid HWD.out
                          have HWD := Lib.hid (Nat.le_trans HWD.out b70.size)
                          refine hK.out _ _ (HK5.out _ (q70)) (fun hHeld3 => ?_)
                          clear hK K hHeld
                          have hHeld := hHeld3
                          clear hHeld3
                          try simp only [Act.put, List.getElem_toArray, List.getElem_cons_zero, List.getElem_cons_succ, List.setIfInBounds_toArray, List.set_cons_zero, List.set_cons_succ]
                          refine wpAnyH_ready (rs := [13]) (by kernel_rfl) (by simp) ?_
                          refine AllReadyH.cons (o := _) rfl (fun K hK => ?_) ?_
                          · go_simp
                            have hbw71 := bnext HB5.out (q70)
                            have hx71 := RPL.out _ _ _ w70 hbw71.size hbw71 HRR.out HT2.out.le HT2.out
                            refine hx71.mono ?_; rintro e w71 ⟨vr, vc, vf2, rfl, hvr, hvc, hvf, hto, hgb, hlen⟩
                            dsimp only
                            have b71 : Below w5.heap.size w70 w71 := ⟨hgb.os, hgb.tape, hgb.output, hgb.size, fun k hk => hgb.block k (by have := (q70).size; omega) fun e => by cases e; have := HP.out.2.1; have := HP.out.2.2.1; omega⟩
                            have q71 := (q70).trans b71
                            have HQS71 := Lib.hid hgb.size
                            have HWDP := HWD
                            have HWD := Lib.hid (Nat.le_trans HWD.out hgb.size)
                            have HTOLD := HT2
                            have HT2 := Lib.hid hto
                            have HT1 := Lib.hid (HT1.out.grown hgb HTOLD.out.le (by have := HP.out.1; omega))
                            have HXB := Lib.hid (blk_grown HXB.out hgb fun e => by cases e; exact absurd (ty_one ⟨_, _, HXB.out⟩ ⟨_, _, HTOLD.out.b⟩) (by decide))
                            have HKC := Lib.hid (row_grown HKC.out hgb fun q hq e => by cases e; exact absurd (ty_one (own_ty HKC.out hq).1 ⟨_, _, HTOLD.out.b⟩) (by decide))
                            have HKF := Lib.hid (row_grown HKF.out hgb fun q hq e => by cases e; exact absurd (ty_one (own_ty HKF.out hq).1 ⟨_, _, HTOLD.out.b⟩) (by decide))
                            have HKR := Lib.hid (row_grown HKR.out hgb fun q hq e => by cases e; exact absurd (ty_one (own_ty HKR.out hq).1 ⟨_, _, HTOLD.out.b⟩) (by decide))
                            have HX : Hid (Blk w62.heap.size setC 58 w71) := Lib.hid ((hgb.block _ HX.out.lt fun e => by cases e; have := HXQ.out; have := HP.out; omega).trans HX.out)
                            have HVR := Lib.hid (row_down (HWDP.out) hvr)
                            have HVC := Lib.hid (row_down (HWDP.out) hvc)
                            have HVF2 := Lib.hid (row_down (HWDP.out) hvf)
                            obtain ⟨ra9, rc9, rfl, -⟩ := shape_of hvr
                            obtain ⟨ca9, cc9, rfl, -⟩ := shape_of hvc
                            obtain ⟨fa9, fc9, rfl, -⟩ := shape_of hvf
                            have HLEN := Lib.hid hlen
                            clear hvr hvc hvf hto hgb hlen
                            refine hK.out _ _ (HK5.out _ (q71)) (fun hHeld3 => ?_)
                            clear hK K hHeld
                            have hHeld := hHeld3
                            clear hHeld3
                            try simp only [Act.put, List.getElem_toArray, List.getElem_cons_zero, List.getElem_cons_succ, List.setIfInBounds_toArray, List.set_cons_zero, List.set_cons_succ]
                            refine wpAnyH_take (i := 14) (oi := _) (v := ?vfu72) rfl (by kernel_rfl) (by kernel_rfl) (by kernel_rfl) (fun _ _ _ h => h) (Or.inl ⟨by kernel_rfl, ?hyfu72⟩) hHeld ?restfu72
                            case hyfu72 => (intro w9 hSw; clear hSw; go_simp; try with_reducible rfl)
                            try simp only [Act.put, List.getElem_toArray, List.getElem_cons_zero, List.getElem_cons_succ, List.setIfInBounds_toArray, List.set_cons_zero, List.set_cons_succ]
                            refine wpAnyH_take (i := 15) (oi := _) (v := ?vfu73) rfl (by kernel_rfl) (by kernel_rfl) (by kernel_rfl) (fun _ _ _ h => h) (Or.inl ⟨by kernel_rfl, ?hyfu73⟩) hHeld ?restfu73
                            case hyfu73 => (intro w9 hSw; clear hSw; go_simp; try with_reducible rfl)
                            try simp only [Act.put, List.getElem_toArray, List.getElem_cons_zero, List.getElem_cons_succ, List.setIfInBounds_toArray, List.set_cons_zero, List.set_cons_succ]
                            refine wpAnyH_take (i := 16) (oi := _) (v := ?vfu74) rfl (by kernel_rfl) (by kernel_rfl) (by kernel_rfl) (fun _ _ _ h => h) (Or.inl ⟨by kernel_rfl, ?hyfu74⟩) hHeld ?restfu74
                            case hyfu74 => (intro w9 hSw; clear hSw; go_simp; try with_reducible rfl)
                            try simp only [Act.put, List.getElem_toArray, List.getElem_cons_zero, List.getElem_cons_succ, List.setIfInBounds_toArray, List.set_cons_zero, List.set_cons_succ]
                            refine wpAnyH_ready (rs := [18]) (by kernel_rfl) (by simp) ?_
                            refine AllReadyH.cons (o := _) rfl (fun K hK => ?_) ?_
                            · obtain ⟨w75, hw75⟩ : ∃ w9, w71.setRow w62.heap.size #[.int .i64 (D), .slice ra9 (RT).length rc9, .slice ca9 (CH).length cc9, .slice fa9 (FR).length fc9] = w9 := ⟨_, rfl⟩
                              have hB75 : Blk w62.heap.size #[.int .i64 (D), .slice ra9 (RT).length rc9, .slice ca9 (CH).length cc9, .slice fa9 (FR).length fc9] 58 w75 := by rw [← hw75]; exact setRow_blk HX.out _
                              have g75 : World.grownBy w71 w75 (some w62.heap.size) := by rw [← hw75]; exact ⟨rfl, rfl, rfl, by simp, fun k hk hne => setRow_other _ _ k _ (fun e => hne (by rw [e]))⟩
                              have b75 : Below w5.heap.size w71 w75 := by rw [← hw75]; exact setRow_below (by have := HXQ.out; have := (q71).size; have := HP.out; omega) _
                              have q75 := (q71).trans b75
                              have HVR := Lib.hid (row_grown HVR.out g75 fun q hq e => by cases e; exact absurd (ty_one (own_ty HVR.out hq).1 ⟨_, _, HX.out⟩) (by decide))
                              have HVC := Lib.hid (row_grown HVC.out g75 fun q hq e => by cases e; exact absurd (ty_one (own_ty HVC.out hq).1 ⟨_, _, HX.out⟩) (by decide))
                              have HVF2 := Lib.hid (row_grown HVF2.out g75 fun q hq e => by cases e; exact absurd (ty_one (own_ty HVF2.out hq).1 ⟨_, _, HX.out⟩) (by decide))
                              have HT1 := Lib.hid (HT1.out.grown g75 (by have := HXQ.out; have := HP.out; omega) (by have := HXQ.out; have := HP.out; omega))
                              have HT2 := Lib.hid (HT2.out.grown g75 (by have := HXQ.out; have := HP.out; omega) (by have := HXQ.out; have := HP.out; omega))
                              have HXB := Lib.hid (blk_grown HXB.out g75 fun e => by cases e; have := HXQ.out; omega)
                              have HKC := Lib.hid (row_grown HKC.out g75 fun q hq e => by cases e; exact absurd (ty_one (own_ty HKC.out hq).1 ⟨_, _, HX.out⟩) (by decide))
                              have HKF := Lib.hid (row_grown HKF.out g75 fun q hq e => by cases e; exact absurd (ty_one (own_ty HKF.out hq).1 ⟨_, _, HX.out⟩) (by decide))
                              have HKR := Lib.hid (row_grown HKR.out g75 fun q hq e => by cases e; exact absurd (ty_one (own_ty HKR.out hq).1 ⟨_, _, HX.out⟩) (by decide))
                              have HW75 := Lib.hid hw75
                              clear hw75 g75 b75
                              rw [if_pos (by kernel_rfl)]
                              refine wp_store_row 58 _ _ rfl w62.heap.size #[.int .i64 (D), .slice ra9 (RT).length rc9, .slice ca9 (CH).length cc9, .slice fa9 (FR).length fc9] rfl rfl _ _ HX.out set_sz rfl (by simp [Value.oneCell']) ?_
                              rw [HW75.out]
                              have HX := Lib.hid hB75
                              clear hB75
                              refine hK.out _ _ (HK5.out _ (q75)) (fun hHeld3 => ?_)
                              clear hK K hHeld
                              have hHeld := hHeld3
                              clear hHeld3
                              try simp only [Act.put, List.getElem_toArray, List.getElem_cons_zero, List.getElem_cons_succ, List.setIfInBounds_toArray, List.set_cons_zero, List.set_cons_succ]
                              refine wpAnyH_take (i := 19) (oi := _) (v := ?vfu76) rfl (by kernel_rfl) (by kernel_rfl) (by kernel_rfl) (fun _ _ _ h => h) (Or.inl ⟨by kernel_rfl, ?hyfu76⟩) hHeld ?restfu76
                              case hyfu76 => (intro w9 hSw; clear hSw; go_simp; try with_reducible rfl)
                              try simp only [Act.put, List.getElem_toArray, List.getElem_cons_zero, List.getElem_cons_succ, List.setIfInBounds_toArray, List.set_cons_zero, List.set_cons_succ]
                              refine ⟨by kernel_rfl, ?_⟩
                              clear hHeld
                              have HQ := Lib.hid (q75)
                              go_wp2
                              go_meet
                              case rel => exact ⟨w62.heap.size, _, _, _, rfl, rfl, Lib.hid ⟨HX.out, HVR.out, HVC.out, HVF2.out, HT1.out, HT2.out, HQ.out, HXB.out, HKC.out, HKF.out, HKR.out⟩⟩
                            exact AllReadyH.nil
                          exact AllReadyH.nil
                        exact AllReadyH.nil
                      refine AllReadyH.cons (o := _) rfl (fun K hK => ?_) ?_
                      · obtain ⟨w77, hw77⟩ : ∃ w9, wd.alloc (.cells setC 58) = w9 := ⟨_, rfl⟩
                        have b77 : Below wd.heap.size wd w77 := by rw [← hw77]; exact balloc1 _ _
                        have q77 := bnext hq b77
                        have hz77 : w77.heap.size = wd.heap.size + 1 := by rw [← hw77]; exact size_alloc _ _
                        have hB77 : Blk wd.heap.size setC 58 w77 := by rw [← hw77]; exact Blk.new _ _ _
                        have HT1 := Lib.hid (HT1.out.kept1 b77)
                        have HT2 := Lib.hid (HT2.out.kept1 b77)
                        have HGG := Lib.hid (HGG.out.kept1 b77)
                        have HXB := Lib.hid (HXB.out.kept1 b77)
                        have HKC := Lib.hid (row_kept HKC.out b77)
                        have HKF := Lib.hid (row_kept HKF.out b77)
                        have HKR := Lib.hid (row_kept HKR.out b77)
                        have HX := Lib.hid hB77
                        have HZ77 := Lib.hid hz77
                        have HW77 := Lib.hid hw77
                        clear hB77 hz77 hw77
                        go_simp
                        try rw [HW77.out]
                        have HXQ : Hid (wq.heap.size ≤ wd.heap.size) := Lib.hid HWD.out
                        have HWD := Lib.hid (Nat.le_trans HWD.out b77.size)
                        refine hK.out _ _ (HK5.out _ (q77)) (fun hHeld3 => ?_)
                        clear hK K hHeld
                        have hHeld := hHeld3
                        clear hHeld3
                        try simp only [Act.put, List.getElem_toArray, List.getElem_cons_zero, List.getElem_cons_succ, List.setIfInBounds_toArray, List.set_cons_zero, List.set_cons_succ]
                        refine wpAnyH_ready (rs := [4]) (by kernel_rfl) (by simp) ?_
                        refine AllReadyH.cons (o := _) rfl (fun K hK => ?_) ?_
                        · go_simp
                          refine (lreading_any (dskF d) bad g w77 HGG.out).mono ?_; rintro e w78 ⟨rfl, hr78, b78⟩
                          dsimp only
                          have q78 := bnext q77 b78
                          have HT1 := Lib.hid (HT1.out.kept1 b78)
                          have HT2 := Lib.hid (HT2.out.kept1 b78)
                          have HGG := Lib.hid (HGG.out.kept1 b78)
                          have HXB := Lib.hid (HXB.out.kept1 b78)
                          have HKC := Lib.hid (row_kept HKC.out b78)
                          have HKF := Lib.hid (row_kept HKF.out b78)
                          have HKR := Lib.hid (row_kept HKR.out b78)
                          have HX := Lib.hid (HX.out.kept1 b78)
                          have HRR := Lib.hid hr78
                          clear hr78
                          have HWD := Lib.hid (Nat.le_trans HWD.out b78.size)
                          refine hK.out _ _ (HK5.out _ (q78)) (fun hHeld3 => ?_)
                          clear hK K hHeld
                          have hHeld := hHeld3
                          clear hHeld3
                          try simp only [Act.put, List.getElem_toArray, List.getElem_cons_zero, List.getElem_cons_succ, List.setIfInBounds_toArray, List.set_cons_zero, List.set_cons_succ]
                          refine wpAnyH_ready (rs := [13]) (by kernel_rfl) (by simp) ?_
                          refine AllReadyH.cons (o := _) rfl (fun K hK => ?_) ?_
                          · go_simp
                            have hbw79 := bnext HB5.out (q78)
                            have hx79 := RPL.out _ _ _ w78 hbw79.size hbw79 HRR.out HT2.out.le HT2.out
                            refine hx79.mono ?_; rintro e w79 ⟨vr, vc, vf2, rfl, hvr, hvc, hvf, hto, hgb, hlen⟩
                            dsimp only
                            have b79 : Below w5.heap.size w78 w79 := ⟨hgb.os, hgb.tape, hgb.output, hgb.size, fun k hk => hgb.block k (by have := (q78).size; omega) fun e => by cases e; have := HP.out.2.1; have := HP.out.2.2.1; omega⟩
                            have q79 := (q78).trans b79
                            have HQS79 := Lib.hid hgb.size
                            have HWDP := HWD
                            have HWD := Lib.hid (Nat.le_trans HWD.out hgb.size)
                            have HTOLD := HT2
                            have HT2 := Lib.hid hto
                            have HT1 := Lib.hid (HT1.out.grown hgb HTOLD.out.le (by have := HP.out.1; omega))
                            have HXB := Lib.hid (blk_grown HXB.out hgb fun e => by cases e; exact absurd (ty_one ⟨_, _, HXB.out⟩ ⟨_, _, HTOLD.out.b⟩) (by decide))
                            have HKC := Lib.hid (row_grown HKC.out hgb fun q hq e => by cases e; exact absurd (ty_one (own_ty HKC.out hq).1 ⟨_, _, HTOLD.out.b⟩) (by decide))
                            have HKF := Lib.hid (row_grown HKF.out hgb fun q hq e => by cases e; exact absurd (ty_one (own_ty HKF.out hq).1 ⟨_, _, HTOLD.out.b⟩) (by decide))
                            have HKR := Lib.hid (row_grown HKR.out hgb fun q hq e => by cases e; exact absurd (ty_one (own_ty HKR.out hq).1 ⟨_, _, HTOLD.out.b⟩) (by decide))
                            have HX : Hid (Blk wd.heap.size setC 58 w79) := Lib.hid ((hgb.block _ HX.out.lt fun e => by cases e; have := HXQ.out; have := HP.out; omega).trans HX.out)
                            have HVR := Lib.hid (row_down (HWDP.out) hvr)
                            have HVC := Lib.hid (row_down (HWDP.out) hvc)
                            have HVF2 := Lib.hid (row_down (HWDP.out) hvf)
                            obtain ⟨ra9, rc9, rfl, -⟩ := shape_of hvr
                            obtain ⟨ca9, cc9, rfl, -⟩ := shape_of hvc
                            obtain ⟨fa9, fc9, rfl, -⟩ := shape_of hvf
                            have HLEN := Lib.hid hlen
                            clear hvr hvc hvf hto hgb hlen
                            refine hK.out _ _ (HK5.out _ (q79)) (fun hHeld3 => ?_)
                            clear hK K hHeld
                            have hHeld := hHeld3
                            clear hHeld3
                            try simp only [Act.put, List.getElem_toArray, List.getElem_cons_zero, List.getElem_cons_succ, List.setIfInBounds_toArray, List.set_cons_zero, List.set_cons_succ]
                            refine wpAnyH_take (i := 14) (oi := _) (v := ?vfu80) rfl (by kernel_rfl) (by kernel_rfl) (by kernel_rfl) (fun _ _ _ h => h) (Or.inl ⟨by kernel_rfl, ?hyfu80⟩) hHeld ?restfu80
                            case hyfu80 => (intro w9 hSw; clear hSw; go_simp; try with_reducible rfl)
                            try simp only [Act.put, List.getElem_toArray, List.getElem_cons_zero, List.getElem_cons_succ, List.setIfInBounds_toArray, List.set_cons_zero, List.set_cons_succ]
                            refine wpAnyH_take (i := 15) (oi := _) (v := ?vfu81) rfl (by kernel_rfl) (by kernel_rfl) (by kernel_rfl) (fun _ _ _ h => h) (Or.inl ⟨by kernel_rfl, ?hyfu81⟩) hHeld ?restfu81
                            case hyfu81 => (intro w9 hSw; clear hSw; go_simp; try with_reducible rfl)
                            try simp only [Act.put, List.getElem_toArray, List.getElem_cons_zero, List.getElem_cons_succ, List.setIfInBounds_toArray, List.set_cons_zero, List.set_cons_succ]
                            refine wpAnyH_take (i := 16) (oi := _) (v := ?vfu82) rfl (by kernel_rfl) (by kernel_rfl) (by kernel_rfl) (fun _ _ _ h => h) (Or.inl ⟨by kernel_rfl, ?hyfu82⟩) hHeld ?restfu82
                            case hyfu82 => (intro w9 hSw; clear hSw; go_simp; try with_reducible rfl)
                            try simp only [Act.put, List.getElem_toArray, List.getElem_cons_zero, List.getElem_cons_succ, List.setIfInBounds_toArray, List.set_cons_zero, List.set_cons_succ]
                            refine wpAnyH_ready (rs := [18]) (by kernel_rfl) (by simp) ?_
                            refine AllReadyH.cons (o := _) rfl (fun K hK => ?_) ?_
                            · obtain ⟨w83, hw83⟩ : ∃ w9, w79.setRow wd.heap.size #[.int .i64 (D), .slice ra9 (RT).length rc9, .slice ca9 (CH).length cc9, .slice fa9 (FR).length fc9] = w9 := ⟨_, rfl⟩
                              have hB83 : Blk wd.heap.size #[.int .i64 (D), .slice ra9 (RT).length rc9, .slice ca9 (CH).length cc9, .slice fa9 (FR).length fc9] 58 w83 := by rw [← hw83]; exact setRow_blk HX.out _
                              have g83 : World.grownBy w79 w83 (some wd.heap.size) := by rw [← hw83]; exact ⟨rfl, rfl, rfl, by simp, fun k hk hne => setRow_other _ _ k _ (fun e => hne (by rw [e]))⟩
                              have b83 : Below w5.heap.size w79 w83 := by rw [← hw83]; exact setRow_below (by have := HXQ.out; have := (q79).size; have := HP.out; omega) _
                              have q83 := (q79).trans b83
                              have HVR := Lib.hid (row_grown HVR.out g83 fun q hq e => by cases e; exact absurd (ty_one (own_ty HVR.out hq).1 ⟨_, _, HX.out⟩) (by decide))
                              have HVC := Lib.hid (row_grown HVC.out g83 fun q hq e => by cases e; exact absurd (ty_one (own_ty HVC.out hq).1 ⟨_, _, HX.out⟩) (by decide))
                              have HVF2 := Lib.hid (row_grown HVF2.out g83 fun q hq e => by cases e; exact absurd (ty_one (own_ty HVF2.out hq).1 ⟨_, _, HX.out⟩) (by decide))
                              have HT1 := Lib.hid (HT1.out.grown g83 (by have := HXQ.out; have := HP.out; omega) (by have := HXQ.out; have := HP.out; omega))
                              have HT2 := Lib.hid (HT2.out.grown g83 (by have := HXQ.out; have := HP.out; omega) (by have := HXQ.out; have := HP.out; omega))
                              have HXB := Lib.hid (blk_grown HXB.out g83 fun e => by cases e; have := HXQ.out; omega)
                              have HKC := Lib.hid (row_grown HKC.out g83 fun q hq e => by cases e; exact absurd (ty_one (own_ty HKC.out hq).1 ⟨_, _, HX.out⟩) (by decide))
                              have HKF := Lib.hid (row_grown HKF.out g83 fun q hq e => by cases e; exact absurd (ty_one (own_ty HKF.out hq).1 ⟨_, _, HX.out⟩) (by decide))
                              have HKR := Lib.hid (row_grown HKR.out g83 fun q hq e => by cases e; exact absurd (ty_one (own_ty HKR.out hq).1 ⟨_, _, HX.out⟩) (by decide))
                              have HW83 := Lib.hid hw83
                              clear hw83 g83 b83
                              rw [if_pos (by kernel_rfl)]
                              refine wp_store_row 58 _ _ rfl wd.heap.size #[.int .i64 (D), .slice ra9 (RT).length rc9, .slice ca9 (CH).length cc9, .slice fa9 (FR).length fc9] rfl rfl _ _ HX.out set_sz rfl (by simp [Value.oneCell']) ?_
                              rw [HW83.out]
                              have HX := Lib.hid hB83
                              clear hB83
                              refine hK.out _ _ (HK5.out _ (q83)) (fun hHeld3 => ?_)
                              clear hK K hHeld
                              have hHeld := hHeld3
                              clear hHeld3
                              try simp only [Act.put, List.getElem_toArray, List.getElem_cons_zero, List.getElem_cons_succ, List.setIfInBounds_toArray, List.set_cons_zero, List.set_cons_succ]
                              refine wpAnyH_take (i := 19) (oi := _) (v := ?vfu84) rfl (by kernel_rfl) (by kernel_rfl) (by kernel_rfl) (fun _ _ _ h => h) (Or.inl ⟨by kernel_rfl, ?hyfu84⟩) hHeld ?restfu84
                              case hyfu84 => (intro w9 hSw; clear hSw; go_simp; try with_reducible rfl)
                              try simp only [Act.put, List.getElem_toArray, List.getElem_cons_zero, List.getElem_cons_succ, List.setIfInBounds_toArray, List.set_cons_zero, List.set_cons_succ]
                              refine ⟨by kernel_rfl, ?_⟩
                              clear hHeld
                              have HQ := Lib.hid (q83)
                              go_wp2
                              go_meet
                              case rel => exact ⟨wd.heap.size, _, _, _, rfl, rfl, Lib.hid ⟨HX.out, HVR.out, HVC.out, HVF2.out, HT1.out, HT2.out, HQ.out, HXB.out, HKC.out, HKF.out, HKR.out⟩⟩
                            exact AllReadyH.nil
                          exact AllReadyH.nil
                        exact AllReadyH.nil
                      exact AllReadyH.nil
                    case rest =>
                      obtain ⟨Y, vr, vc, vf', rfl, rfl, HY⟩ := hcut
                      obtain ⟨w14, hw14⟩ : ∃ x, x = wc := ⟨_, rfl⟩
                      subst hw14
                      obtain ⟨y1, y2, y3, y4, y5, y6, y7, y8, y9, y10, y11⟩ := HY.out
                      obtain ⟨ra2, rc2, rfl, -⟩ := shape_of y2
                      obtain ⟨ca2, cc2, rfl, -⟩ := shape_of y3
                      obtain ⟨fa2, fc2, rfl, -⟩ := shape_of y4
                      have SC := Lib.hid fun p : BelowP w14 => lchgs_same _ _ CH p.to (row_of_own (row_kept y3 p.h)) (row_of_own (row_kept y9 p.h))
                      have SI := Lib.hid fun p : BelowP w14 => lints_same _ _ FR p.to (row_of_own (row_kept y4 p.h)) (row_of_own (row_kept y10 p.h))
                      have SE := Lib.hid fun p : BelowP w14 => (by have := sameEnts_any RT RT _ _ p.to (row_of_own (row_kept y2 p.h)) (row_of_own (row_kept y11 p.h)); rw [decide_eq_true rfl] at this; exact this : Calls Tryz.prog 14 #[.slice ra2 RT.length rc2, .slice kra RT.length krc] p.to fun e w' => e = .returned (.bool true) ∧ Below p.to.heap.size p.to w')
                      have AL := Lib.hid fun p : BelowP w14 => lalive_any p.to
                      have q1 := fun p : BelowP w14 => (y5.b.kept1 p.h).cell 1
                      have q2 := fun p : BelowP w14 => (y6.b.kept1 p.h).cell 1
                      have q3 := fun p : BelowP w14 => (y1.kept1 p.h).cell 0
                      have q4 := fun p : BelowP w14 => (y1.kept1 p.h).cell 1
                      have q5 := fun p : BelowP w14 => (y1.kept1 p.h).cell 2
                      have q6 := fun p : BelowP w14 => (y1.kept1 p.h).cell 3
                      have q7 := fun p : BelowP w14 => (y8.kept1 p.h).cell 0
                      simp only [List.getElem?_toArray, List.getElem?_cons_zero, List.getElem?_cons_succ] at q1 q2 q3 q4 q5 q6 q7
                      have HEND := Lib.hid (bnext HB5.out y7)
                      have t1 : (EC == EC) = true := by simp
                      have t2 : ((N1 : Int) == (N1 : Int)) = true := by simp
                      have t3 : (D == D) = true := by simp
                      clear y1 y2 y3 y4 y5 y6 y7 y8 y9 y10 y11 HY
                      go_upto_region 22 with fail
                      refine wp_region_quiet_below mixed (by kernel_rfl) ?_
                      repeat (go_big_quiet_step (first | (go_at_call 30; refine calls_below (SC.out _)) | (go_at_call 23; refine calls_below (SI.out _)) | (go_at_call 14; refine calls_below (SE.out _)) | (go_at_call 16; refine calls_below (AL.out _))))
                      refine wpQuiet_nil ?_
                      intro w0q hw'
                      obtain ⟨⟨wq, bq⟩, hw''⟩ := hw'
                      have hw2 : wq = w0q := hw''.symm
                      clear hw''
                      subst hw2
                      clear q1 q2 q3 q4 q5 q6 q7
                      go_wp2
                      go_ret
                      exact ⟨rfl, bnext HEND.out bq⟩
end Go.Proofs.YtcpoajjgmfglfaaGreat
