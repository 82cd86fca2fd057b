import Derived.Test.YtanghmogeiiooaaGreatDoorPd49
import Derived.Test.YtanghmogeiiooaaGreatDoorPa45
set_option linter.unusedVariables false
set_option linter.unusedSimpArgs false
set_option linter.constructorNameAsVariable false
/- JournalRound: rows of transactions, whatever turns; a replay that tells them. -/
namespace Go.Proofs.YtanghmogeiiooaaGreatDoor
set_option linter.unusedVariables false
set_option linter.unusedSimpArgs false
open Go.RowKit

theorem LawZ.zone0 {lo hi g wd B : Nat} {w w' : World} (h : LawZ lo hi g wd w w') (h1 : hi ≤ B) (h2 : g < B) (h3 : wd < B) : Zone 0 B w w' := ⟨h.os, h.tape, h.output, h.size, fun k hk hn => h.block k hk (.inr (by omega)) (by omega) (by omega)⟩
theorem row_zoneB {B n lo hi z : Nat} {e : TypeId} {v : Value} {xs : List Value} {w w' : World} (h : w.ownsRow B e z v n xs) (hB : hi ≤ B) (k : Zone lo hi w w') : w'.ownsRow B e z v n xs :=
  ⟨h.1, h.2.imp id fun ⟨g, cap, cur, a, b, c, r⟩ => ⟨g, cap, cur, a, b, (k.block g (lt_of_block c) (.inr (by omega))).trans c, r⟩⟩
/-- transactions that steps make -/
def Mild (ts : List Tx) : Prop := ∀ t ∈ ts, t.changes.length ≤ 12 ∧ t.revokes.length ≤ 12 ∧ ∀ r ∈ t.revokes, 0 ≤ r
theorem mild_nil : Mild [] := fun t h => by cases h
theorem mild_step {ts : List Tx} (h : Mild ts) (da : Nat) (chg rev : Nat → Bool) (nx : Nat → Nat) : Mild (ts ++ [⟨stepL da chg nx, stepR da chg rev⟩]) := fun t ht => by
  rcases List.mem_append.1 ht with ht | ht
  · exact h t ht
  · rw [List.mem_singleton.1 ht]
    refine ⟨stepL_len da chg nx, stepR_len da chg rev, fun r hr => ?_⟩
    obtain ⟨k, _, rfl⟩ := List.mem_map.1 hr
    exact Int.natCast_nonneg _
theorem ints_nats {v : Value} {R : List Int} {w : World} (h : IntsIn v R w) (h0 : ∀ r ∈ R, 0 ≤ r) : NatsIn v (R.map Int.toNat) w := by
  have e : (R.map Int.toNat).map (fun (n : Nat) => Value.int .i64 (n : Int)) = R.map (Value.int .i64) := by
    rw [List.map_map]
    refine List.map_congr_left fun x hx => ?_
    show Value.int .i64 ((x.toNat : Nat) : Int) = _
    rw [Int.toNat_of_nonneg (h0 x hx)]
  show RowIn 1 v (R.map Int.toNat).length ((R.map Int.toNat).map fun (n : Nat) => Value.int .i64 (n : Int)) w
  rw [e, List.length_map]; exact h
set_option maxRecDepth 100000 in
set_option maxHeartbeats 2000000 in
theorem samerx_yes (va vb : Value) (L : List Tx) (hL : L.length ≤ 4000000) (hch : Mild L) (w : World) (ha : TxnsIn va L w) (hb : TxnsIn vb L w) :
    Calls Tryz.prog 27 #[va, vb] w fun e w' => e = .returned (.bool true) ∧ Below w.heap.size w w' := by
  have mixed : Tryz.prog.follows .mixedOrders = true := by kernel_rfl
  obtain ⟨ada, capa, rfl, a1, a2, hada⟩ := ha.open
  obtain ⟨adb, capb, rfl, b1, b2, hadb⟩ := hb.open
  have HA := Lib.hid hada
  have HB := Lib.hid hadb
  have HCH := Lib.hid hch
  clear ha hb hada hadb hch
  go_enter Tryz.func27, Tryz.ntmps27
  go_wp2
  go_loopw [5] (fun q wr => ∃ i : Nat, q = .int .i64 i ∧ i ≤ L.length ∧ Below w.heap.size w wr) (fun q _ => L.length - (intOf q).toNat)
  case atStart => exact ⟨0, rfl, Nat.zero_le _, Below.refl _ _⟩
  case round =>
    obtain ⟨i, rfl, hi, hbr⟩ := hrel
    by_cases hlt : i < L.length
    · obtain ⟨ga, oa, rfl, hga, hca⟩ := HA.out (by omega)
      obtain ⟨gb, ob, rfl, hgb, hcb⟩ := HB.out (by omega)
      obtain ⟨u1, u2, p1, p2, p3, p4⟩ := hca i hlt
      obtain ⟨v1, v2, r1, r2, r3, r4⟩ := hcb i hlt
      obtain ⟨e1, e2, e3⟩ := HCH.out L[i] (List.getElem_mem hlt)
      have bb : ∀ p : BelowP wr, Below w.heap.size w p.to := fun p => hbr.trans (p.h.mono hbr.size)
      have q1 := fun p : BelowP wr => ((bb p).cell (p := ⟨ga, oa + i * 2, none⟩) hga).trans p1
      have q2 := fun p : BelowP wr => ((bb p).cell (p := ⟨ga, oa + i * 2 + 1, none⟩) hga).trans p2
      have q3 := fun p : BelowP wr => ((bb p).cell (p := ⟨gb, ob + i * 2, none⟩) hgb).trans r1
      have q4 := fun p : BelowP wr => ((bb p).cell (p := ⟨gb, ob + i * 2 + 1, none⟩) hgb).trans r2
      have SC := Lib.hid fun p : BelowP wr => samech_yes u1 v1 L[i].changes (by omega) p.to (RowIn.kept p3 (bb p)) (RowIn.kept r3 (bb p))
      have SI := Lib.hid fun p : BelowP wr => same_yes u2 v2 (L[i].revokes.map Int.toNat) (by rw [List.length_map]; omega) p.to (ints_nats (RowIn.kept p4 (bb p)) e3) (ints_nats (RowIn.kept r4 (bb p)) e3)
      have HBR := Lib.hid hbr
      clear HA HB hca hcb p1 p2 p3 p4 r1 r2 r3 r4 e1 e2 e3 bb hbr
      go_wp2
      refine wp_region_quiet_below mixed (by kernel_rfl) ?_
      repeat (go_big_quiet_step (first | (go_at_call 55; refine calls_below (SC.out _)) | (go_at_call 56; refine calls_below (SI.out _))))
      refine wpQuiet_nil ?_
      intro w0q hw'
      obtain ⟨⟨wq, bq⟩, hw''⟩ := hw'
      have hw2 : wq = w0q := hw''.symm
      clear hw''
      subst hw2
      clear SC SI q1 q2 q3 q4
      go_wp2
      exact ⟨⟨i + 1, by go_num, by omega, HBR.out.trans (bq.mono HBR.out.size)⟩, by simp [intOf]; omega⟩
    · obtain rfl : i = L.length := by omega
      clear HA HB
      go_wp2
      go_ret
      exact ⟨rfl, hbr⟩
/-- the device opened of what is kept tells the same, transaction by transaction -/
theorem Wd.kept2 {S S' : St} {l b da p q used : Nat} {ts : List Tx} {home want : Nat → Nat} (hf : Fit12 l b da) (h : Wd S l b da p q used ts home want) (hL : Left S S') : Wd S' l b da p q used ts home want := by
  have hl := hf.hl
  have hr := hf.room
  have hda := hf.hda
  have htop := hf.htop
  have hn := h.n
  exact ⟨hL.n.trans hn, h.log.same hl fun x h1 h2 => left_same h.clean hL (by omega), ⟨fun k hk => (left_same h.clean hL (by omega)).trans (h.homes.text k hk), h.homes.net⟩, hL.clean, h.sizes⟩
/-- a replay of it: all transactions, and the blocks as they were committed -/
theorem replay_round {b l i m t da d lo hi p q used : Nat} {ts : List Tx} {home want : Nat → Nat} (hok : okN b l i m t) (hf : Fit12 l b da) {S : St} (hl : S.left < 0) (ha : S.acts ≤ 800 * 1000) (h : Wd S l b da p q used ts home want) (w : World) (hd : DevAt d lo hi S w) (ht : Tab w) :
    Calls Tryz.prog 13 #[.pointer (some ⟨d, 0, none⟩), lay b l i m t] w fun e w' => ∃ v S1, e = .returned (.tuple #[v, .int .i64 0]) ∧ TxnsOwn w.heap.size v ts w' ∧ DevAt d lo hi S1 w' ∧ Zone lo hi w w' ∧ S1.n = b ∧ hasB S1 da want = true := by
  have hll := hf.hl
  have hr := hf.room
  have hda := hf.hda
  have htop := hf.htop
  have hn := h.n
  have hk := h.log.is hll
  by_cases he : ts = []
  · subst he
    have hu : used = 0 := h.log.stands
    refine (jreplay_empty d lo hi b l i m t hok hn w hd ht ([], used) hk rfl).mono fun e w' ⟨he, hb⟩ => ?_
    refine ⟨_, S, he, TxnsOwn.nil _ _, hd.kept1 hb, Zone.of_below hb lo hi, hn, hasB_yes fun k hk => ?_⟩
    rcases h.homes.net k hk with e | e
    · cases e
    · rw [h.homes.text k hk, e.2]
  · refine (jreplay_ok d lo hi b l i m t hok hn (by omega) w hd ht (ts, used) hk he).mono ?_
    rintro e w' ⟨v, hev, hv, hd', z⟩
    rw [deeds_live (replay_fine hll hn (by omega) h.log h.sizes) (.inl hl)] at hev hd'
    refine ⟨v, _, hev, hv, hd', z, (runD_n _ _).trans hn, hasB_yes (replay_has hll (by omega) h.log (by omega) (by omega) fun k hk => (h.homes.net k hk).imp id fun e => ⟨e.1, by rw [h.homes.text k hk, e.2]⟩)⟩
/-- one more transaction is put behind them -/
theorem wpList_appT2 {ops : Array Oper} {rest : List Oper} {o : Oper} {a : Act} {Q : Exit → Act → World → Prop} {w : World} (hgd : o.guard = none) (s x : Operand)
    (ho : o.op = .call { callee := .builtin .append, args := #[s, x], argTypes := #[49, 49] })
    (base : Nat) (v : Value) (ts : List Tx) (t : Tx) (ac ar : Option Addr) (cc cr m1 m2 : Nat) (hs : a.eval s = v) (hown : TxnsOwn base v ts w) (W : World) (hW : w = W.alloc (.cells #[.slice ac m1 cc, .slice ar m2 cr] 64)) (q : Nat) (hq : W.heap.size = q) (hx : a.eval x = .slice (some ⟨q, 0, none⟩) 1 1)
    (h1 : ChgsOwn base (.slice ac m1 cc) t.changes w) (h2 : IntsOwn base (.slice ar m2 cr) t.revokes w)
    (hlen : ts.length ≤ 4000) (hbase : base ≤ w.heap.size)
    (h : ∀ v' w', TxnsOwn base v' (ts ++ [t]) w' → w.grownBy w' v.ownBlock → wpList Tryz.prog ops Q rest (a.put o.dst v') w') : wpList Tryz.prog ops Q (o :: rest) a w := by
  obtain ⟨i0, hi, hz0, hz1, hz2⟩ := info_parts txn_zero
  obtain ⟨vs, k1, k2, k3⟩ := hown
  subst hW
  subst hq
  refine wpList_append_own (w := W.alloc (.cells #[.slice ac m1 cc, .slice ar m2 cr] 64)) hgd s x 49 ho base 64 i0 (.agg #[.slice none 0 0, .slice none 0 0]) 2 48 Tryz.underlying49 hi hz0 hz1 hz2 rfl (by decide) v _ _ hs k2 ⟨W.heap.size, 0, none⟩ 1 1 [.slice ac m1 cc, .slice ar m2 cr] hx rfl (fun j u hj => by
    rw [add_at, Nat.zero_add, World.cell?_alloc_mark]
    simpa using hj) (fun u hu => by simp at hu; rcases hu with rfl | rfl <;> rfl) (by unfold maxLen; omega) (by omega) hbase ?_
  intro v' w' q1 q2 _
  refine h v' w' ⟨vs ++ [(.slice ac m1 cc, .slice ar m2 cr)], by rw [List.length_append, List.length_append, k1]; rfl, ?_, ?_⟩ q2
  · rw [List.length_append, List.flatMap_append]; exact q1
  · intro k a b
    by_cases e : k < vs.length
    · rw [List.getElem_append_left e, List.getElem_append_left (by omega)]
      have := k3 k e (by omega)
      exact ⟨kept_kinds k2 this.1 (by decide) q2, kept_kinds k2 this.2 (by decide) q2⟩
    · have ek : k = vs.length := by rw [List.length_append] at a; simp at a; omega
      subst ek
      have e1 : (vs ++ [(Value.slice ac m1 cc, Value.slice ar m2 cr)])[vs.length]'a = (Value.slice ac m1 cc, Value.slice ar m2 cr) := by rw [List.getElem_append_right (Nat.le_refl _)]; simp
      have e2 : (ts ++ [t])[vs.length]'b = t := by rw [List.getElem_append_right (by omega)]; simp [k1]
      rw [e1, e2]
      exact ⟨kept_kinds k2 h1 (by decide) q2, kept_kinds k2 h2 (by decide) q2⟩
theorem txnsIn_kept {v : Value} {ts : List Tx} {w W : World} (h : TxnsIn v ts w) (hb : Below w.heap.size w W) : TxnsIn v ts W := by
  obtain ⟨vs, h1, h2, h3⟩ := h
  exact ⟨vs, h1, h2.kept hb, fun k a b => ⟨RowIn.kept (h3 k a b).1 hb, RowIn.kept (h3 k a b).2 hb⟩⟩
theorem TxnsOwn.lt {B : Nat} {v : Value} {ts : List Tx} {w : World} (h : TxnsOwn B v ts w) : ∀ g, v.ownBlock = some g → B ≤ g ∧ g < w.heap.size := fun g hg => by
  obtain ⟨vs, h1, h2, h3⟩ := h
  exact h2.lt g hg
theorem lognext_below {g d : Nat} {b l i la ma ml ta tl da slot left : Int} {seq : Nat} {failed : Int} {w : World} (h : LogAt g d b l i la ma ml ta tl da slot left seq failed w) :
    Calls Tryz.prog 23 #[.pointer (some ⟨g, 0, none⟩)] w fun e w' => e = .returned (.int .u64 (seq : Int)) ∧ Below w.heap.size w w' :=
  (lognext_any g d b l i la ma ml ta tl da slot left seq failed w h).mono fun e w' ⟨h1, h2⟩ => ⟨h1, h2 ▸ Below.refl _ _⟩
theorem txnsIn_zone {v : Value} {ts : List Tx} {w1 W : World} {lo2 : Nat} (h : TxnsIn v ts w1) (hz : w1.heap.size = lo2) (hb : Below lo2 w1 W) : TxnsIn v ts W := by
  obtain ⟨vs, h1, h2, h3⟩ := h
  have hb' : Below w1.heap.size w1 W := by rw [hz]; exact hb
  exact ⟨vs, h1, h2.kept hb', fun k a b => ⟨RowIn.kept (h3 k a b).1 hb', RowIn.kept (h3 k a b).2 hb'⟩⟩
end Go.Proofs.YtanghmogeiiooaaGreatDoor
