import Derived.Test.YtfllncliiihggaaGreatDoorPa49
import Derived.Test.YtfllncliiihggaaGreatDoorPa12
import Derived.Test.YtfllncliiihggaaGreatDoorPa23
import Derived.Deep.RegionHeld3
import Derived.Deep.RegionLaw
import Derived.Test.YtfllncliiihggaaGreatDoorPa32
import Derived.Test.YtfllncliiihggaaGreatDoorPa46
import Derived.Deep.CutBlock
import Derived.Deep.DeepCutAuto
set_option linter.unusedVariables false
set_option linter.unusedSimpArgs false
set_option linter.constructorNameAsVariable false
/- Blocks that look like records: what is held in memory; a commit of them. -/
namespace Go.Proofs.YtfllncliiihggaaGreatDoor
set_option linter.unusedVariables false
set_option linter.unusedSimpArgs false
open Go.RowKit

/-- v is a slice of n records, X 0, .. -/
def RecsIn (v : Value) (n : Nat) (X : Nat → Rec) (w : World) : Prop := ∃ (ad : Option Addr) (cap : Nat), v = .slice ad n cap ∧ n ≤ cap ∧ cap ≤ 9223372036854775807 ∧
  (0 < n → ∃ g o, ad = some ⟨g, o, none⟩ ∧ g < w.heap.size ∧ ∃ VH VM : Nat → Value, ∀ k, k < n → (Fits (X k) ∧ RecIn (X k) (VH k) (VM k) w) ∧ ∀ j u, (recC (X k) (VH k) (VM k))[j]? = some u → w.cell? ⟨g, o + (k * 6 + j), none⟩ = some u)
theorem RecsIn.kept {v : Value} {n : Nat} {X : Nat → Rec} {w w' : World} (h : RecsIn v n X w) (hb : Below w.heap.size w w') : RecsIn v n X w' := by
  obtain ⟨ad, cap, rfl, h1, h2, h3⟩ := h
  refine ⟨ad, cap, rfl, h1, h2, fun hp => ?_⟩
  obtain ⟨g, o, rfl, hg, VH, VM, hx⟩ := h3 hp
  exact ⟨g, o, rfl, Nat.lt_of_lt_of_le hg hb.size, VH, VM, fun k hk => ⟨⟨(hx k hk).1.1, (hx k hk).1.2.kept hb⟩, fun j u hj => (hb.cell (p := ⟨g, o + (k * 6 + j), none⟩) hg).trans ((hx k hk).2 j u hj)⟩⟩
theorem row_logz {lo hi g B n : Nat} {v : Value} {e : TypeId} {z : Nat} {xs : List Value} {w w' : World} (h : w.ownsRow B e z v n xs) (zz : LogZ lo hi g w w') (hB : hi ≤ B) (hg : g < B) : w'.ownsRow B e z v n xs :=
  ⟨h.1, h.2.imp id fun ⟨g', cap, cur, a1, a2, a3, a4⟩ => ⟨g', cap, cur, a1, a2, (zz.block g' (lt_of_block a3) (.inr (by omega)) (by omega)).trans a3, a4⟩⟩
/-- the law's memory: its world, device, log and transaction -/
structure CmMem (w0 : World) (wd d lo hi g b l i m t tb da : Nat) (v : Value) (B : List ByteArray) (ts : List Tx) (used : Nat) (S : St) (w : World) : Prop where
  wld : WldAt wd b l i m t d g (fun _ => 0) (fun _ => 0) w
  dev : DevAt d lo hi S w
  log : LogAt g d b l i 1 (1 + l) m (1 + l + m) t (1 + l + m + t) (used : Int) ((l - 1 - used : Nat) : Int) (1 + ts.length) 0 w
  pure : Mk S l b ts used
  row : ChgsOwn (tb + 1) v (mkL da B) w
  txn : Blk tb #[v, .slice none 0 0] 64 w
  below : Below w0.heap.size w0 w
  o0 : w0.heap.size ≤ wd
  o1 : wd < lo
  o2 : hi ≤ g
  o3 : g < tb
section
variable {w0 : World} {wd d lo hi g b l i m t tb da : Nat} {v : Value} {B : List ByteArray} {ts : List Tx} {used : Nat} {S : St} {w w' : World}
theorem CmMem.kept1 (h : CmMem w0 wd d lo hi g b l i m t tb da v B ts used S w) (hb : Below w.heap.size w w') : CmMem w0 wd d lo hi g b l i m t tb da v B ts used S w' :=
  ⟨h.wld.kept1 hb, h.dev.kept1 hb, Blk.kept1 h.log hb, h.pure, row_kept h.row hb, h.txn.kept1 hb, bnext h.below hb, h.o0, h.o1, h.o2, h.o3⟩
theorem CmMem.lohi (h : CmMem w0 wd d lo hi g b l i m t tb da v B ts used S w) : lo < hi := h.dev.lohi
/-- one more change -/
theorem CmMem.more {s : ByteArray} {v' : Value} (h : CmMem w0 wd d lo hi g b l i m t tb da v B ts used S w) (hb : Below (tb + 1) w w') (hr : ChgsOwn (tb + 1) v' (mkL da (B ++ [s])) w') :
    CmMem w0 wd d lo hi g b l i m t tb da v' (B ++ [s]) ts used S (w'.setCell ⟨tb, 0, none⟩ v') := by
  have o0 := h.o0; have o1 := h.o1; have o2 := h.o2; have o3 := h.o3
  have olh := h.lohi
  have hl := h.txn.lt
  have z : Zone (tb + 1) w.heap.size w w' := ⟨hb.os, hb.tape, hb.output, hb.size, fun k hk ho => hb.block k (by omega)⟩
  have hs := hb.size
  have k1 : Blk tb #[v, .slice none 0 0] 64 w' := h.txn.kept z (.inl (Nat.lt_succ_self _))
  have z2 := zone_set tb w' 0 v'
  refine ⟨Blk.other (Blk.kept h.wld z (.inl (by omega))) (by show tb ≠ wd; omega) _, (h.dev.kept z (.inl (by omega))).kept z2 (.inl (by omega)), Blk.other (Blk.kept h.log z (.inl (by omega))) (by show tb ≠ g; omega) _, h.pure, row_zone hr z2 (Nat.le_refl _), k1.set 0 v', ?_, o0, o1, o2, o3⟩
  exact (h.below.trans (hb.mono (by omega))).setCell (by show w0.heap.size ≤ tb; omega) _
end
/-- a commit of them -/
theorem commit_mk {w0 : World} {wd d lo hi g b l i m t tb da : Nat} {v : Value} {B : List ByteArray} {ts : List Tx} {used : Nat} {S : St} (hok : okN b l i m t) (hf : Fit12 l b da) (hB : B.length ≤ 12) (hb : ∀ s ∈ B, s.size = 128) (hu : used ≤ 14) (hts : ts.length ≤ 4) (ha : S.acts ≤ 90 * 1000)
    (w : World) (h : CmMem w0 wd d lo hi g b l i m t tb da v B ts used S w) (ht : Tab w0) :
    Calls Tryz.prog 20 #[.pointer (some ⟨g, 0, none⟩), .agg #[v, .slice none 0 0], .slice none 0 0] w fun e w' => e = .returned (.int .i64 0) ∧
      ∃ S', S'.acts ≤ S.acts + 30 ∧ CmMem w0 wd d lo hi g b l i m t tb da v B (ts ++ [⟨mkL da B, []⟩]) (used + sizeT B.length 0) S' w' := by
  obtain ⟨c1, c2⟩ := h.pure.commit hf hB hb hu hts ha
  have hl := hf.hl
  have hz := size12 hB
  have hlen := mkL_length da B
  have o0 := h.o0; have o1 := h.o1; have o2 := h.o2; have o3 := h.o3
  have olh := h.lohi
  have hT : Tab w := tabOf ht h.below
  have K := jcommit_ok lo hi g d b l i m t hok (S := S) (by omega) used (l - 1 - used) (by omega) (by omega) (1 + ts.length) (by omega) (mkL da B) [] [] (by simp) v (.slice none 0 0) (.slice none 0 0) w h.dev h.o2 h.log (ownRow_in h.row) (RowIn.nil 1 w) (RowIn.nil 2 w) hT
    (mkL_txn hf hB hb) rfl (by rw [hlen]; show sizeT B.length 0 ≤ l - 1 - used; omega)
  rw [c1] at K
  refine K.mono ?_
  rintro e w' ⟨rfl, hd, z, hlog⟩
  refine ⟨rfl, _, ?_, ⟨?_, hd, ?_, c2, row_logz h.row z (by omega) (by omega), z.blk h.txn (.inr (by omega)) (by omega), h.below.trans (z.below h.below.size (by omega) (by omega)), o0, o1, o2, o3⟩⟩
  · rw [runD_acts]
    have := commitD_len used l (1 + ts.length) (mkL da B)
    rw [hlen] at this
    omega
  · exact z.blk h.wld (.inl (by omega)) (by omega)
  · simp only [selI_yes, selN_yes] at hlog
    rw [hlen] at hlog
    have e1 : ((used : Int) + ((sizeT B.length ([] : List Int).length : Nat) : Int)) % ((l : Int) - 1) = ((used + sizeT B.length 0 : Nat) : Int) := by
      show ((used : Int) + ((sizeT B.length 0 : Nat) : Int)) % ((l : Int) - 1) = _
      rw [Int.emod_eq_of_lt (by omega) (by omega)]; omega
    have e2 : (((l - 1 - used : Nat) : Int) - ((sizeT B.length ([] : List Int).length : Nat) : Int)) = ((l - 1 - (used + sizeT B.length 0) : Nat) : Int) := by
      show (((l - 1 - used : Nat) : Int) - ((sizeT B.length 0 : Nat) : Int)) = _
      omega
    have e3 : (1 + ts.length + 1) % 18446744073709551616 = 1 + (ts ++ [(⟨mkL da B, []⟩ : Tx)]).length := by
      rw [List.length_append, Nat.mod_eq_of_lt (by omega)]; rfl
    rw [e1, e2, e3] at hlog
    exact hlog
end Go.Proofs.YtfllncliiihggaaGreatDoor

/- Rows of one transaction, and of two; a device opened of what is kept; a replay of it. -/
namespace Go.Proofs.YtfllncliiihggaaGreatDoor
set_option linter.unusedVariables false
set_option linter.unusedSimpArgs false
open Go.RowKit

theorem own_lit {q : Nat} {a c : Value} {w : World} (h : Blk q #[a, c] 64 w) : w.ownsRow q 64 2 (.slice (some ⟨q, 0, none⟩) 1 1) 1 [a, c] :=
  ⟨rfl, .inr ⟨q, 1, #[a, c], rfl, Nat.le_refl _, h, Nat.le_refl _, by unfold maxLen; omega, rfl, rfl⟩⟩
theorem wpList_appTv {ops : Array Oper} {rest : List Oper} {o : Oper} {a : Act} {Q : Exit → Act → World → Prop} {w : World} (hgd : o.guard = none) (s x : Operand)
    (ho : o.op = .call { callee := .builtin .append, args := #[s, x], argTypes := #[49, 49] })
    (base : Nat) (v : Value) (n : Nat) (xs : List Value) (ac ar : Option Addr) (cc cr m1 m2 : Nat) (hs : a.eval s = v) (hown : w.ownsRow base 64 2 v n xs) (W : World) (hW : w = W.alloc (.cells #[.slice ac m1 cc, .slice ar m2 cr] 64)) (q : Nat) (hq : W.heap.size = q) (hx : a.eval x = .slice (some ⟨q, 0, none⟩) 1 1)
    (hlen : n ≤ 4000) (hbase : base ≤ w.heap.size)
    (h : ∀ v' w', w'.ownsRow base 64 2 v' (n + 1) (xs ++ [.slice ac m1 cc, .slice ar m2 cr]) → Below base w w' → wpList Tryz.prog ops Q rest (a.put o.dst v') w') : wpList Tryz.prog ops Q (o :: rest) a w := by
  obtain ⟨i0, hi, hz0, hz1, hz2⟩ := info_parts txn_zero
  subst hW
  subst hq
  refine wpList_append_own (w := W.alloc (.cells #[.slice ac m1 cc, .slice ar m2 cr] 64)) hgd s x 49 ho base 64 i0 (.agg #[.slice none 0 0, .slice none 0 0]) 2 48 Tryz.underlying49 hi hz0 hz1 hz2 rfl (by decide) v _ _ hs hown ⟨W.heap.size, 0, none⟩ 1 1 [.slice ac m1 cc, .slice ar m2 cr] hx rfl (fun j u hj => by
    rw [add_at, Nat.zero_add, World.cell?_alloc_mark]
    simpa using hj) (fun u hu => by simp at hu; rcases hu with rfl | rfl <;> rfl) (by unfold maxLen; omega) (by omega) hbase ?_
  intro v' w' q1 q2 _
  exact h v' w' q1 (below_of_row hown q2 hbase)
theorem txns_one {q : Nat} {vc : Value} {C : List (Int × ByteArray)} {w : World} (h : Blk q #[vc, .slice none 0 0] 64 w) (hc : ChgsIn vc C w) : TxnsIn (.slice (some ⟨q, 0, none⟩) 1 1) [⟨C, []⟩] w := by
  refine ⟨[(vc, .slice none 0 0)], rfl, ownRow_in (own_lit h), fun k h1 h2 => ?_⟩
  obtain rfl : k = 0 := by simp at h1; omega
  exact ⟨hc, RowIn.nil 1 w⟩
theorem txns_two {B : Nat} {v vc : Value} {C : List (Int × ByteArray)} {w : World} (h : w.ownsRow B 64 2 v 2 ([vc, .slice none 0 0] ++ [vc, .slice none 0 0])) (hc : ChgsIn vc C w) : TxnsIn v [⟨C, []⟩, ⟨C, []⟩] w := by
  refine ⟨[(vc, .slice none 0 0), (vc, .slice none 0 0)], rfl, ownRow_in h, fun k h1 h2 => ?_⟩
  have : k = 0 ∨ k = 1 := by simp at h1; omega
  rcases this with rfl | rfl
  · exact ⟨hc, RowIn.nil 1 w⟩
  · exact ⟨hc, RowIn.nil 1 w⟩
/-- one more change is put behind them -/
theorem CmMem.app {w0 W w6 : World} {wd d lo hi g b l i m t tb da yy : Nat} {v v5 : Value} {B : List ByteArray} {ts : List Tx} {used : Nat} {S : St} {s : ByteArray} {o : Obj} (h : CmMem w0 wd d lo hi g b l i m t tb da v B ts used S W) (hy : da + B.length = yy)
    (r6 : w6.ownsRow (tb + 1) 61 2 v5 (B.length + 1) (chgsL (mkL da B) ++ [.int .i64 (yy : Int), .string s])) (g6 : (W.alloc o).grownBy w6 v.ownBlock) :
    CmMem w0 wd d lo hi g b l i m t tb da v5 (B ++ [s]) ts used S (w6.setCell ⟨tb, 0, none⟩ v5) ∧ w6.cell? ⟨tb, 0, none⟩ = some v ∧ w6.frozen? ⟨tb, 0, none⟩ = false := by
  have hk := h.kept1 (balloc1 W o)
  have hl := hk.txn.lt
  have b6 : Below (tb + 1) (W.alloc o) w6 := below_of_row hk.row g6 hl
  have T6 : Blk tb #[v, .slice none 0 0] 64 w6 := (b6.block _ (Nat.lt_succ_self _)).trans hk.txn
  refine ⟨hk.more b6 ?_, T6.cell 0, T6.frozen 0⟩
  show w6.ownsRow (tb + 1) 61 2 v5 (mkL da (B ++ [s])).length (chgsL (mkL da (B ++ [s])))
  rw [mkL_length, mkL_snoc, chgsL_append, List.length_append, hy]
  exact r6
theorem CmMem.rowB {w0 W : World} {wd d lo hi g b l i m t tb da : Nat} {v : Value} {B : List ByteArray} {ts : List Tx} {used : Nat} {S : St} (h : CmMem w0 wd d lo hi g b l i m t tb da v B ts used S W) : W.ownsRow (tb + 1) 61 2 v B.length (chgsL (mkL da B)) := by
  have := h.row
  rw [← mkL_length da B]; exact this
theorem CmMem.cells {w0 W : World} {wd d lo hi g b l i m t tb da cap : Nat} {ad : Option Addr} {B : List ByteArray} {ts : List Tx} {used : Nat} {S : St} (h : CmMem w0 wd d lo hi g b l i m t tb da (.slice ad B.length cap) B ts used S W) (hp : 0 < B.length) :
    ∃ gc oc, ad = some ⟨gc, oc, none⟩ ∧ gc < W.heap.size ∧ ∀ k (hk : k < B.length), W.cell? ⟨gc, oc + k * 2, none⟩ = some (.int .i64 ((da + k : Nat) : Int)) ∧ W.cell? ⟨gc, oc + k * 2 + 1, none⟩ = some (.string B[k]) := by
  have hc : ChgsIn (.slice ad B.length cap) (mkL da B) W := ownRow_in h.row
  obtain ⟨ad2, cap2, e, -, -, h3⟩ := hc.open
  injection e with e1 _ _
  subst e1
  obtain ⟨gc, oc, e2, hg, hx⟩ := h3 (by rw [mkL_length]; exact hp)
  refine ⟨gc, oc, e2, hg, fun k hk => ?_⟩
  have := hx k (by rw [mkL_length]; exact hk)
  rw [mkL_get hk] at this
  exact this
theorem read_mk {d lo hi b da : Nat} {S : St} {B : List ByteArray} (hn : S.n = b) (hB : da + B.length ≤ b) (ht : ∀ k (hk : k < B.length), rText S ((da + k : Nat) : Int) = B[k]) (k : Nat) (hk : k < B.length) (w : World) (h : DevAt d lo hi S w) :
    Calls Tryz.prog 30 #[.pointer (some ⟨d, 0, none⟩), .int .i64 ((da + k : Nat) : Int)] w fun e w' => e = .returned (.tuple #[.string B[k], .int .i64 0]) ∧ w = w' := by
  have := read_any ((da + k : Nat) : Int) w h
  rwa [ht k hk, show rCode S ((da + k : Nat) : Int) = 0 by unfold rCode; rw [if_pos (by omega)]] at this
/-- what is kept, opened -/
theorem open_kept {d lo hi : Nat} {S : St} (w0 : World) (h : DevAt d lo hi S w0) (w : World) :
    Calls Tryz.prog 12 #[.string (cat S.was S.n)] w fun e w' => ∃ d', e = .returned (.tuple #[.pointer (some ⟨d', 0, none⟩), .int .i64 0]) ∧ DevAt d' w.heap.size w'.heap.size (freshSt S.n (blkOf 128 (cat S.was S.n))) w' ∧ Below w.heap.size w w' :=
  open_yes S.n _ h.ok.lo h.ok.hi (cat_len h.ok.was) w
/-- what the law's replay makes -/
theorem replay_mk {b l i m t da used : Nat} {ts : List Tx} {B : List ByteArray} {S : St} (hok : okN b l i m t) (hf : Fit12 l b da) (h : Mk S l b (ts ++ [⟨mkL da B, []⟩]) used) (hB : B.length ≤ 12) :
    ∃ S', S'.n = b ∧ (∀ k (hk : k < B.length), rText S' ((da + k : Nat) : Int) = B[k]) ∧ ∀ (d lo hi : Nat) (w : World), DevAt d lo hi S w → Tab w →
      Calls Tryz.prog 14 #[.pointer (some ⟨d, 0, none⟩), lay b l i m t] w fun e w' => ∃ v, e = .returned (.tuple #[v, .int .i64 0]) ∧ TxnsOwn w.heap.size v (ts ++ [⟨mkL da B, []⟩]) w' ∧ DevAt d lo hi S' w' ∧ Zone lo hi w w' := by
  obtain ⟨h1, h2, h3, h4⟩ := h.replay hf hB
  refine ⟨_, h3, h4, fun d lo hi w hd ht => ?_⟩
  have := jreplay_ok d lo hi b l i m t hok h.n (by have := h.acts; omega) w hd ht _ h1 (by simp)
  rw [h2] at this
  exact this
end Go.Proofs.YtfllncliiihggaaGreatDoor

/- The walk of JournalMasks. -/
namespace Go.Proofs.YtfllncliiihggaaGreatDoor
set_option linter.unusedVariables false
set_option linter.unusedSimpArgs false
open Go.RowKit

set_option maxRecDepth 100000 in
set_option maxHeartbeats 8000000 in
theorem masks_walk (x y z : Nat) (hx : x < 256) (hy : y < 256) (hz : z < 256) (n : Nat) (X : Nat → Rec) (vl : Value) (more : Bool) (w : World) (h : RecsIn vl n X w) (ht : Tab w) :
    Calls Tryz.prog 7 #[.agg #[.int .u8 (x : Int), .int .u8 (y : Int), .int .u8 (z : Int)], vl, .bool more] w fun e w' => e = .returned (.bool true) ∧ Below w.heap.size w w' := by
  have mixed : Tryz.prog.follows .mixedOrders = true := by kernel_rfl
  have gr : Tryz.prog.stoodInHeld 81 = false := by kernel_rfl
  have gt : Tryz.prog.stoodInHeld 64 = false := by kernel_rfl
  have gc : Tryz.prog.stoodInHeld 61 = false := by kernel_rfl
  obtain ⟨ad, cap, rfl, h1, h2, h3⟩ := h
  have HB0 := Lib.hid (balloc1 w (.cells #[.int .u8 (x : Int), .int .u8 (y : Int), .int .u8 (z : Int)] 22))
  by_cases hn : 20 < n
  · have t0 : decide ((20 : Int) < (n : Int)) = true := decide_eq_true (by omega)
    clear h3
    go_enter Tryz.func7, Tryz.ntmps7
    go_wp2
    go_ret
    exact ⟨rfl, HB0.out⟩
  have t0 : decide ((20 : Int) < (n : Int)) = false := decide_eq_false (by omega)
  obtain ⟨b, l, i, m, t, da, L⟩ := lay_mk x y z
  have hok := L.ok
  have hf := L.fit
  have HDA := Lib.hid L.ed
  have hl := hf.hl
  have htop := hf.htop
  have hb4 := hf.hb
  have BG := Lib.hid fun w ht => begun_any x y z hx hy hz L w ht
  have HOK := Lib.hid hok
  have HF := Lib.hid hf
  have H3 := Lib.hid h3
  have HT := Lib.hid ht
  clear h3 L hok hf ht hn
  go_enter Tryz.func7, Tryz.ntmps7
  go_wp2_with fail
  refine (BG.out _ (tabOf HT.out HB0.out)).mono ?_; rintro e w1 ⟨wd, d, lo, hi, g, rfl, hg, b1⟩
  have hb1 := bnext HB0.out b1
  have hbot := hg.bot
  rw [size_alloc] at hbot
  obtain ⟨tb, htb⟩ : ∃ tb, w1.heap.size = tb := ⟨_, rfl⟩
  obtain ⟨w2, hw2⟩ : ∃ w2, w1.alloc (.cells #[.slice none 0 0, .slice none 0 0] 64) = w2 := ⟨_, rfl⟩
  have M2 : CmMem w wd d lo hi g b l i m t tb da (.slice none 0 0) [] [] 0 (beganS b l) w2 := by
    have b2 : Below w1.heap.size w1 w2 := by rw [← hw2]; exact balloc1 _ _
    have hlg : g < tb := by rw [← htb]; exact hg.log.lt
    refine ⟨hg.wld.kept1 b2, hg.dev.kept1 b2, Blk.kept1 hg.log b2, mk_began HF.out, World.ownsRow_nil _ _ _ _, by rw [← hw2, ← htb]; exact Blk.new _ _ _, bnext hb1 b2, by omega, hg.o1, hg.o2, hlg⟩
  have HW2 := Lib.hid hw2
  have HTB := Lib.hid htb
  have HM2 := Lib.hid M2
  clear hg b1 hb1 hbot htb hw2 M2 BG
  go_upto_block 0 with fail
  try rw [HTB.out]
  rw [HW2.out]
  clear HW2 HTB
  go_cut [10] (fun _ wx => ∃ (v : Value) (B : List ByteArray), B.length ≤ 12 ∧ Hid (∀ s ∈ B, s.size = 128) ∧ CmMem w wd d lo hi g b l i m t tb da v B [] 0 (beganS b l) wx)
  case first =>
    go_wp2_with fail
    go_loopw [10] (fun p wr => ∃ (k : Nat) (v : Value) (B : List ByteArray), p = .int .i64 (k : Int) ∧ k ≤ n ∧ B.length ≤ 12 ∧ Hid (∀ s ∈ B, s.size = 128) ∧ CmMem w wd d lo hi g b l i m t tb da v B [] 0 (beganS b l) wr) (fun p _ => n - (intOf p).toNat)
    case atStart => exact ⟨0, _, [], rfl, Nat.zero_le _, Nat.zero_le _, Lib.hid (fun s hs => by cases hs), HM2.out⟩
    case round =>
      obtain ⟨k, v, B, rfl, hk, hB, H128, M⟩ := hrel
      clear HM2
      obtain ⟨ad', cap', rfl, -⟩ := shape_of M.row
      rw [mkL_length] at M
      have s0 := M.txn.cell 0
      simp only [List.getElem?_toArray, List.getElem?_cons_zero] at s0
      by_cases hlt : k < n
      · have tk : decide ((k : Int) < (n : Int)) = true := decide_eq_true (by omega)
        by_cases hB12 : B.length < 12
        · have tB : decide ((B.length : Int) < 12) = true := decide_eq_true (by omega)
          obtain ⟨gx, o, rfl, hgx, VH, VM, hX⟩ := H3.out (by omega)
          obtain ⟨⟨hft, hri⟩, hc⟩ := hX k hlt
          clear hX H3
          generalize X k = r at hft hri hc
          generalize VH k = vh at hri hc
          generalize VM k = vm at hri hc
          have k0 := (M.below.cell (p := ⟨gx, o + (k * 6 + 0), none⟩) hgx).trans (hc 0 _ rfl)
          have k1 := (M.below.cell (p := ⟨gx, o + (k * 6 + 1), none⟩) hgx).trans (hc 1 _ rfl)
          have k2 := (M.below.cell (p := ⟨gx, o + (k * 6 + 2), none⟩) hgx).trans (hc 2 _ rfl)
          have k3 := (M.below.cell (p := ⟨gx, o + (k * 6 + 3), none⟩) hgx).trans (hc 3 _ rfl)
          have k4 := (M.below.cell (p := ⟨gx, o + (k * 6 + 4), none⟩) hgx).trans (hc 4 _ rfl)
          have k5 := (M.below.cell (p := ⟨gx, o + (k * 6 + 5), none⟩) hgx).trans (hc 5 _ rfl)
          have hri := hri.kept M.below
          clear hc
          obtain ⟨ah, ch, rfl, a1, a2, -⟩ := hri.1.shape
          obtain ⟨am, cm, rfl, a3, a4, -⟩ := hri.2.shape
          have HM := Lib.hid M
          have HFT := Lib.hid hft
          have HRI := Lib.hid hri
          have k0' := k0; have k1' := k1; have k2' := k2; have k3' := k3; have k4' := k4; have k5' := k5
          rw [← Nat.add_assoc] at k0' k1' k2' k3' k4' k5'
          rw [Nat.add_zero] at k0'
          obtain ⟨kind, seq, pos, homes, masked, sum⟩ := r
          dsimp only at *
          by_cases hh : homes.length ≤ 100
          · have u1 : decide ((100 : Int) < (homes.length : Int)) = false := decide_eq_false (by omega)
            by_cases hm : masked.length ≤ 100
            · have u2 : decide ((100 : Int) < (masked.length : Int)) = false := decide_eq_false (by omega)
              obtain ⟨sq, hsq⟩ : ∃ sq, seq % 4 = sq := ⟨_, rfl⟩
              have hsq2 : (seq : Int) % 4 = (sq : Int) := by omega
              obtain ⟨bx, hbx⟩ : ∃ bx, wr.heap.size = bx := ⟨_, rfl⟩
              obtain ⟨w3, hw3⟩ : ∃ w3, wr.alloc (.cells #[.int .i64 kind, .int .u64 (seq : Int), .int .i64 pos, .slice ah homes.length ch, .slice am masked.length cm, .int .u32 (sum : Int)] 81) = w3 := ⟨_, rfl⟩
              have X3 : Blk bx #[.int .i64 kind, .int .u64 (seq : Int), .int .i64 pos, .slice ah homes.length ch, .slice am masked.length cm, .int .u32 (sum : Int)] 81 w3 := by rw [← hw3, ← hbx]; exact Blk.new _ _ _
              have b3 : Below wr.heap.size wr w3 := by rw [← hw3]; exact balloc1 _ _
              have f3 := X3.frozen 1
              have x1 := X3.cell 1
              simp only [List.getElem?_toArray, List.getElem?_cons_zero, List.getElem?_cons_succ] at x1
              have X4 : Blk bx #[.int .i64 kind, .int .u64 (sq : Int), .int .i64 pos, .slice ah homes.length ch, .slice am masked.length cm, .int .u32 (sum : Int)] 81 (w3.setCell ⟨bx, 1, none⟩ (.int .u64 (sq : Int))) := X3.set 1 _
              have b4 : Below wr.heap.size wr (w3.setCell ⟨bx, 1, none⟩ (.int .u64 (sq : Int))) := b3.setCell (by show wr.heap.size ≤ bx; omega) _
              obtain ⟨w4, hw4⟩ : ∃ w4, w3.setCell ⟨bx, 1, none⟩ (.int .u64 (sq : Int)) = w4 := ⟨_, rfl⟩
              rw [hw4] at X4 b4
              have HW3 := Lib.hid hw3
              have HW4 := Lib.hid hw4
              have HBX := Lib.hid hbx
              have HM4 := Lib.hid (HM.out.kept1 b4)
              have HX4 := Lib.hid X4
              have hft4 : Fits ⟨kind, sq, pos, homes, masked, sum⟩ := ⟨hft.kind, by show sq < _; have := hft.seq; dsimp only at this; omega, hft.pos, hft.homes, hft.sum⟩
              have EN := Lib.hid fun hv => enc_no ⟨kind, sq, pos, homes, masked, sum⟩ hv hft4 _ _ w4 (hri.kept b4)
              have EY := Lib.hid fun hv => enc_yes ⟨kind, sq, pos, homes, masked, sum⟩ hv hft4 _ _ w4 (hri.kept b4)
              have hBS := Lib.hid fun hv => blk_size (r := ⟨kind, sq, pos, homes, masked, sum⟩) hv
              clear M hft hri X3 b3 X4 b4 hw3 hw4 hbx hsq hft4 HFT HRI HM
              go_upto_region 12 with fail
              try rw [HBX.out]
              rw [HW3.out]
              clear k0 k1 k2 k3 k4 k5 k0' k1' k2' k3' k4' k5'
              go_upto_region 13 with fail
              rw [HW4.out]
              obtain ⟨y0, y1, y2, y3, y4, y5⟩ := rec_cells HX4.out
              clear f3 x1 HW3 HW4 HBX
              by_cases hv : RecOk ⟨kind, sq, pos, homes, masked, sum⟩
              · have hbs := hBS.out hv
                have EY := Lib.hid (EY.out hv)
                generalize blk ⟨kind, sq, pos, homes, masked, sum⟩ = s at *
                clear EN hBS hv
                go_wp2_with fail
                refine EY.out.mono ?_; rintro e w5 ⟨rfl, b5⟩
                have HM5 := Lib.hid (HM4.out.kept1 b5)
                clear y0 y1 y2 y3 y4 y5 HX4 HM4 b5 EY
                obtain ⟨yy, hyy⟩ : ∃ yy, da + B.length = yy := ⟨_, rfl⟩
                have hz : (1 : Int) + (l : Int) + (m : Int) + (t : Int) + (B.length : Int) = (yy : Int) := by have := HDA.out; omega
                have hy2 : yy ≤ 4200 := by have := HDA.out; omega
                have Mq := HM5.out.kept1 (Below.refl _ _).drew
                have s0 := Mq.txn.cell 0
                simp only [List.getElem?_toArray, List.getElem?_cons_zero] at s0
                have q8 := Mq.wld.da
                have s1 := (Mq.kept1 (balloc1 _ (.cells #[.int .i64 (yy : Int), .string s] 61))).txn.cell 0
                simp only [List.getElem?_toArray, List.getElem?_cons_zero] at s1
                have s1' : (w5.alloc (.cells #[.int .i64 (yy : Int), .string s] 61)).drew.cell? ⟨tb, 0, none⟩ = some (.slice ad' B.length cap') := s1
                have s1'' : (w5.alloc (.cells #[.int .i64 (yy : Int), .string s] 61)).cell? ⟨tb, 0, none⟩ = some (.slice ad' B.length cap') := s1
                obtain ⟨v5, w6, r1, hv5, g5⟩ := appC_run (ty := 62) (tb + 1) _ _ ((yy : Int), s) w5.drew Mq.row (by rw [mkL_length]; omega) Mq.txn.lt
                have HM6 := Lib.hid (Mq.app hyy (by
                  have h := hv5
                  unfold ChgsOwn at h
                  rw [List.length_append, mkL_length, chgsL_append] at h
                  exact h) g5)
                obtain ⟨a5, c5, e5, -⟩ := shape_of hv5
                rw [List.length_append, mkL_length, List.length_singleton] at e5
                subst e5
                have c6 := HM6.out.2.1
                have f6 := HM6.out.2.2
                have R1 := Lib.hid r1
                have H128' : Hid (∀ c ∈ B ++ [s], c.size = 128) := Lib.hid (fun c hc => by
                  rcases List.mem_append.1 hc with hc | hc
                  · exact H128.out c hc
                  · rw [List.mem_singleton.1 hc]; exact hbs)
                clear HM5 hyy Mq hv5 g5 r1 H128 hbs
                have hwr : IntKind.i64.wrap (yy : Int) = (yy : Int) := IntWalk.i64_in _ (by omega)
                go_upto_region 15 with fail
                go_region_law (refine step_append rfl _ _ _ rfl rfl rfl R1.out ?_)
                all_goals (clear R1 s0 q8; go_wp2; exact ⟨⟨k + 1, _, B ++ [s], by go_num, by omega, by rw [List.length_append]; show B.length + 1 ≤ 12; omega, H128', HM6.out.1⟩, by simp [intOf]; omega⟩)
              · have EN := Lib.hid (EN.out hv)
                clear EY hBS hv
                go_wp2_with fail
                refine EN.out.mono ?_; rintro e w5 ⟨rfl, b5⟩
                have HM := Lib.hid (HM4.out.kept1 b5)
                clear y0 y1 y2 y3 y4 y5 HX4 HM4 b5 EN
                go_wp2
                exact ⟨⟨k + 1, _, B, by go_num, by omega, hB, H128, HM.out⟩, by simp [intOf]; omega⟩
            · have u2 : decide ((100 : Int) < (masked.length : Int)) = true := decide_eq_true (by omega)
              clear M hft hri
              go_wp2
              exact ⟨⟨k + 1, _, B, by go_num, by omega, hB, H128, HM.out⟩, by simp [intOf]; omega⟩
          · have u1 : decide ((100 : Int) < (homes.length : Int)) = true := decide_eq_true (by omega)
            clear M hft hri
            go_wp2
            exact ⟨⟨k + 1, _, B, by go_num, by omega, hB, H128, HM.out⟩, by simp [intOf]; omega⟩
        · have tB : decide ((B.length : Int) < 12) = false := decide_eq_false (by omega)
          have HM := Lib.hid M
          clear M
          go_wp2
          go_meet
          exact ⟨_, B, hB, H128, HM.out⟩
      · have tk : decide ((k : Int) < (n : Int)) = false := decide_eq_false (by omega)
        have HM := Lib.hid M
        clear M
        go_wp2
        go_meet
        exact ⟨_, B, hB, H128, HM.out⟩
  case rest =>
    obtain ⟨v, B, hB, H128, M⟩ := hcut
    clear HM2
    obtain ⟨ad', cap', rfl, -⟩ := shape_of M.row
    rw [mkL_length] at M
    have hsz := size12 hB
    have hba := began_acts (b := b) (l := l)
    have C1 := Lib.hid fun W (hM : CmMem w wd d lo hi g b l i m t tb da (.slice ad' B.length cap') B [] 0 (beganS b l) W) => commit_mk HOK.out HF.out hB H128.out (by omega) (by simp) (by rw [began_acts]; omega) W hM HT.out
    have C2 := Lib.hid fun S1 (ha : S1.acts ≤ (beganS b l).acts + 30) W (hM : CmMem w wd d lo hi g b l i m t tb da (.slice ad' B.length cap') B ([] ++ [⟨mkL da B, []⟩]) (0 + sizeT B.length 0) S1 W) => commit_mk HOK.out HF.out hB H128.out (by omega) (by simp) (by rw [began_acts] at ha; omega) W hM HT.out
    cases more with
    | false =>
      have MD := M.kept1 (Below.refl _ _).drew
      have g10 := MD.wld.log
      have s0 := MD.txn.cell 0
      have s1 := MD.txn.cell 1
      simp only [List.getElem?_toArray, List.getElem?_cons_zero, List.getElem?_cons_succ] at s0 s1
      clear M hba hsz
      go_upto_region 16 with fail
      refine wp_region_held_drew (S := fun w' => w'.cell? ⟨wd, 10, none⟩ = some (.pointer (some ⟨g, 0, none⟩)) ∧ w'.cell? ⟨tb, 0, none⟩ = some (.slice ad' B.length cap') ∧ w'.cell? ⟨tb, 1, none⟩ = some (.slice none 0 0)) mixed ⟨g10, s0, s1⟩ (fun hHeld => ?_)
      refine wpAnyH_take (i := 0) (oi := _) (v := ?vm0) rfl (by kernel_rfl) (by kernel_rfl) (by kernel_rfl) (fun _ _ _ h => h) (Or.inl ⟨by kernel_rfl, ?hym0⟩) hHeld ?restm0
      case hym0 => (intro w9 hSw; clear hSw; go_simp; try with_reducible rfl)
      try simp only [Act.put, List.getElem_toArray, List.getElem_cons_zero, List.getElem_cons_succ, List.setIfInBounds_toArray, List.set_cons_zero, List.set_cons_succ]
      refine wpAnyH_take (i := 1) (oi := _) (v := ?vm1) rfl (by kernel_rfl) (by kernel_rfl) (by kernel_rfl) (fun _ _ _ h => h) (Or.inl ⟨by kernel_rfl, ?hym1⟩) hHeld ?restm1
      case hym1 => (intro w9 hSw; clear hSw; go_simp; try with_reducible rfl)
      try simp only [Act.put, List.getElem_toArray, List.getElem_cons_zero, List.getElem_cons_succ, List.setIfInBounds_toArray, List.set_cons_zero, List.set_cons_succ]
      refine wpAnyH_take (i := 2) (oi := _) (v := ?vm2) rfl (by kernel_rfl) (by kernel_rfl) (by kernel_rfl) (fun _ _ _ h => h) (Or.inl ⟨by kernel_rfl, ?hym2⟩) hHeld ?restm2
      case hym2 => (intro w9 hSw; clear hSw; go_simp; try with_reducible rfl)
      try simp only [Act.put, List.getElem_toArray, List.getElem_cons_zero, List.getElem_cons_succ, List.setIfInBounds_toArray, List.set_cons_zero, List.set_cons_succ]
      refine wpAnyH_take (i := 3) (oi := _) (v := ?vm3) rfl (by kernel_rfl) (by kernel_rfl) (by kernel_rfl) (fun _ _ _ h => h) (Or.inl ⟨by kernel_rfl, ?hym3⟩) hHeld ?restm3
      case hym3 => (intro w9 hSw; obtain ⟨e1, e2, e3⟩ := hSw; go_simp; try with_reducible rfl)
      try simp only [Act.put, List.getElem_toArray, List.getElem_cons_zero, List.getElem_cons_succ, List.setIfInBounds_toArray, List.set_cons_zero, List.set_cons_succ]
      refine wpAnyH_take (i := 4) (oi := _) (v := ?vm4) rfl (by kernel_rfl) (by kernel_rfl) (by kernel_rfl) (fun _ _ _ h => h) (Or.inl ⟨by kernel_rfl, ?hym4⟩) hHeld ?restm4
      case hym4 => (intro w9 hSw; obtain ⟨e1, e2, e3⟩ := hSw; go_simp; try with_reducible rfl)
      try simp only [Act.put, List.getElem_toArray, List.getElem_cons_zero, List.getElem_cons_succ, List.setIfInBounds_toArray, List.set_cons_zero, List.set_cons_succ]
      refine wpAnyH_ready (rs := [5]) (by kernel_rfl) (by simp) ?_
      refine AllReadyH.cons (o := _) rfl (fun K hK => ?_) AllReadyH.nil
      go_simp
      refine (C1.out _ MD).mono ?_; rintro e w3 ⟨rfl, S1, ha1, M1⟩
      dsimp only
      have g10' := M1.wld.log
      have s0' := M1.txn.cell 0
      have s1' := M1.txn.cell 1
      simp only [List.getElem?_toArray, List.getElem?_cons_zero, List.getElem?_cons_succ] at s0' s1'
      refine hK.out _ _ ⟨g10', s0', s1'⟩ (fun hHeld3 => ?_)
      clear hK K hHeld
      have hHeld := hHeld3
      clear hHeld3
      try simp only [Act.put, List.getElem_toArray, List.getElem_cons_zero, List.getElem_cons_succ, List.setIfInBounds_toArray, List.set_cons_zero, List.set_cons_succ]
      refine wpAnyH_take (i := 6) (oi := _) (v := ?vm6) rfl (by kernel_rfl) (by kernel_rfl) (by kernel_rfl) (fun _ _ _ h => h) (Or.inl ⟨by kernel_rfl, ?hym6⟩) hHeld ?restm6
      case hym6 => (intro w9 hSw; clear hSw; go_simp; try with_reducible rfl)
      try simp only [Act.put, List.getElem_toArray, List.getElem_cons_zero, List.getElem_cons_succ, List.setIfInBounds_toArray, List.set_cons_zero, List.set_cons_succ]
      refine wpAnyH_take (i := 7) (oi := _) (v := ?vm7) rfl (by kernel_rfl) (by kernel_rfl) (by kernel_rfl) (fun _ _ _ h => h) (Or.inl ⟨by kernel_rfl, ?hym7⟩) hHeld ?restm7
      case hym7 => (intro w9 hSw; clear hSw; go_simp; try with_reducible rfl)
      try simp only [Act.put, List.getElem_toArray, List.getElem_cons_zero, List.getElem_cons_succ, List.setIfInBounds_toArray, List.set_cons_zero, List.set_cons_succ]
      refine wpAnyH_take (i := 8) (oi := _) (v := ?vm8) rfl (by kernel_rfl) (by kernel_rfl) (by kernel_rfl) (fun _ _ _ h => h) (Or.inl ⟨by kernel_rfl, ?hym8⟩) hHeld ?restm8
      case hym8 => (intro w9 hSw; clear hSw; go_simp; try with_reducible rfl)
      try simp only [Act.put, List.getElem_toArray, List.getElem_cons_zero, List.getElem_cons_succ, List.setIfInBounds_toArray, List.set_cons_zero, List.set_cons_succ]
      refine wpAnyH_take (i := 9) (oi := _) (v := ?vm9) rfl (by kernel_rfl) (by kernel_rfl) (by kernel_rfl) (fun _ _ _ h => h) (Or.inl ⟨by kernel_rfl, ?hym9⟩) hHeld ?restm9
      case hym9 => (intro w9 hSw; clear hSw; go_simp; try with_reducible rfl)
      try simp only [Act.put, List.getElem_toArray, List.getElem_cons_zero, List.getElem_cons_succ, List.setIfInBounds_toArray, List.set_cons_zero, List.set_cons_succ]
      refine wpAnyH_take (i := 10) (oi := _) (v := undef) rfl (by kernel_rfl) (by kernel_rfl) (by kernel_rfl) (fun _ _ _ h => h) (Or.inr ⟨by kernel_rfl, rfl⟩) hHeld ?restm10
      try simp only [Act.put, List.getElem_toArray, List.getElem_cons_zero, List.getElem_cons_succ, List.setIfInBounds_toArray, List.set_cons_zero, List.set_cons_succ]
      refine wpAnyH_take (i := 11) (oi := _) (v := undef) rfl (by kernel_rfl) (by kernel_rfl) (by kernel_rfl) (fun _ _ _ h => h) (Or.inr ⟨by kernel_rfl, rfl⟩) hHeld ?restm11
      try simp only [Act.put, List.getElem_toArray, List.getElem_cons_zero, List.getElem_cons_succ, List.setIfInBounds_toArray, List.set_cons_zero, List.set_cons_succ]
      refine wpAnyH_take (i := 12) (oi := _) (v := undef) rfl (by kernel_rfl) (by kernel_rfl) (by kernel_rfl) (fun _ _ _ h => h) (Or.inr ⟨by kernel_rfl, rfl⟩) hHeld ?restm12
      try simp only [Act.put, List.getElem_toArray, List.getElem_cons_zero, List.getElem_cons_succ, List.setIfInBounds_toArray, List.set_cons_zero, List.set_cons_succ]
      refine wpAnyH_take (i := 13) (oi := _) (v := undef) rfl (by kernel_rfl) (by kernel_rfl) (by kernel_rfl) (fun _ _ _ h => h) (Or.inr ⟨by kernel_rfl, rfl⟩) hHeld ?restm13
      try simp only [Act.put, List.getElem_toArray, List.getElem_cons_zero, List.getElem_cons_succ, List.setIfInBounds_toArray, List.set_cons_zero, List.set_cons_succ]
      refine wpAnyH_take (i := 14) (oi := _) (v := undef) rfl (by kernel_rfl) (by kernel_rfl) (by kernel_rfl) (fun _ _ _ h => h) (Or.inr ⟨by kernel_rfl, rfl⟩) hHeld ?restm14
      try simp only [Act.put, List.getElem_toArray, List.getElem_cons_zero, List.getElem_cons_succ, List.setIfInBounds_toArray, List.set_cons_zero, List.set_cons_succ]
      refine wpAnyH_take (i := 15) (oi := _) (v := undef) rfl (by kernel_rfl) (by kernel_rfl) (by kernel_rfl) (fun _ _ _ h => h) (Or.inr ⟨by kernel_rfl, rfl⟩) hHeld ?restm15
      try simp only [Act.put, List.getElem_toArray, List.getElem_cons_zero, List.getElem_cons_succ, List.setIfInBounds_toArray, List.set_cons_zero, List.set_cons_succ]
      refine wpAnyH_take (i := 16) (oi := _) (v := undef) rfl (by kernel_rfl) (by kernel_rfl) (by kernel_rfl) (fun _ _ _ h => h) (Or.inr ⟨by kernel_rfl, rfl⟩) hHeld ?restm16
      try simp only [Act.put, List.getElem_toArray, List.getElem_cons_zero, List.getElem_cons_succ, List.setIfInBounds_toArray, List.set_cons_zero, List.set_cons_succ]
      refine wpAnyH_take (i := 17) (oi := _) (v := ?vm17) rfl (by kernel_rfl) (by kernel_rfl) (by kernel_rfl) (fun _ _ _ h => h) (Or.inl ⟨by kernel_rfl, ?hym17⟩) hHeld ?restm17
      case hym17 => (intro w9 hSw; clear hSw; go_simp; try with_reducible rfl)
      try simp only [Act.put, List.getElem_toArray, List.getElem_cons_zero, List.getElem_cons_succ, List.setIfInBounds_toArray, List.set_cons_zero, List.set_cons_succ]
      refine wpAnyH_take (i := 18) (oi := _) (v := ?vm18) rfl (by kernel_rfl) (by kernel_rfl) (by kernel_rfl) (fun _ _ _ h => h) (Or.inl ⟨by kernel_rfl, ?hym18⟩) hHeld ?restm18
      case hym18 => (intro w9 hSw; clear hSw; go_simp; try with_reducible rfl)
      try simp only [Act.put, List.getElem_toArray, List.getElem_cons_zero, List.getElem_cons_succ, List.setIfInBounds_toArray, List.set_cons_zero, List.set_cons_succ]
      refine ⟨by kernel_rfl, ?_⟩
      clear hHeld
      clear C1 C2 ha1
      have HM1 := Lib.hid M1
      have HPU := Lib.hid (M1.pure.opened HF.out M1.dev.ok)
      have KP := Lib.hid (kept_any _ M1.dev)
      clear M1 MD s0 s1 g10 s0' s1' g10'
      have d9 := HM1.out.wld.dev
      go_wp2_with fail
      refine KP.out.mono ?_; rintro e w4 ⟨rfl, b4⟩
      have HM4 := Lib.hid (HM1.out.kept1 b4)
      have OK4 := Lib.hid (open_kept _ HM1.out.dev w4)
      clear b4 KP HM1 d9
      go_wp2_with fail
      refine OK4.out.mono ?_; rintro e w5 ⟨d2, rfl, hd2, b5⟩
      have HM5 := Lib.hid (HM4.out.kept1 b5)
      have HD5 := Lib.hid hd2
      have HB5 := Lib.hid b5
      clear hd2 b5 OK4
      obtain ⟨S4, hn4, ht4, RP⟩ := replay_mk HOK.out HF.out HPU.out hB
      have RP := Lib.hid RP
      have HN4 := Lib.hid hn4
      have HT4 := Lib.hid ht4
      clear hn4 ht4 HPU
      obtain ⟨k0, k1, k2, k3, k4, k5, k6, k7, k8, k9, k10⟩ := wldG_cells HM5.out.wld
      go_wp2_with fail
      refine (RP.out d2 _ _ w5 HD5.out (tabOf HT.out HM5.out.below)).mono ?_; rintro e w6 ⟨vx, rfl, hx6, hd6, z6⟩
      have b46 : Below w4.heap.size w4 w6 := HB5.out.trans (z6.below HB5.out.size (Nat.le_refl _))
      have HM6 := Lib.hid (HM4.out.kept1 b46)
      have HD6 := Lib.hid hd6
      have HX6 := Lib.hid hx6
      clear k0 k1 k2 k3 k4 k5 k6 k7 k8 k9 k10 RP hd6 hx6 z6 b46 HM5 HD5 HB5 HM4
      have s0 := HM6.out.txn.cell 0
      have s1 := HM6.out.txn.cell 1
      simp only [List.getElem?_toArray, List.getElem?_cons_zero, List.getElem?_cons_succ] at s0 s1
      obtain ⟨q, hq⟩ : ∃ q, w6.heap.size = q := ⟨_, rfl⟩
      obtain ⟨w7, hw7⟩ : ∃ w7, w6.alloc (.cells #[.slice ad' B.length cap', .slice none 0 0] 64) = w7 := ⟨_, rfl⟩
      have T7 : Blk q #[.slice ad' B.length cap', .slice none 0 0] 64 w7 := by rw [← hw7, ← hq]; exact Blk.new _ _ _
      have b7 : Below w6.heap.size w6 w7 := by rw [← hw7]; exact balloc1 _ _
      have hsz7 : w7.heap.size = q + 1 := by rw [← hw7, size_alloc, hq]
      have HW7 := Lib.hid hw7
      have HQ := Lib.hid hq
      clear hw7 hq
      have SM := Lib.hid (sametx_yes vx (.slice (some ⟨q, 0, none⟩) 1 1) ([] ++ [⟨mkL da B, []⟩]) (by simp) (fun t ht => by
        rw [List.nil_append] at ht; rw [List.mem_singleton.1 ht]; exact ⟨by show (mkL da B).length ≤ _; rw [mkL_length]; omega, rfl⟩) w7 (HX6.out.kept b7).in_ (txns_one T7 (ownRow_in (HM6.out.kept1 b7).row)))
      have HB7 := Lib.hid b7
      clear b7 T7 HX6
      go_wp2_with fail
      try rw [HQ.out]
      rw [HW7.out]
      refine SM.out.mono ?_; rintro e wz ⟨rfl, bz⟩
      have b6z := bnext HB7.out bz
      have HMz := Lib.hid (HM6.out.kept1 b6z)
      have HDz := Lib.hid (HD6.out.kept1 b6z)
      clear b6z bz SM HB7 HM6 HD6 HW7 HQ s0 s1
      have RD := Lib.hid (read_mk (d := d2) (lo := w4.heap.size) (hi := w5.heap.size) HN4.out (by omega) HT4.out)
      have CE := Lib.hid HMz.out.cells
      have s0 := HMz.out.txn.cell 0
      simp only [List.getElem?_toArray, List.getElem?_cons_zero, List.getElem?_cons_succ] at s0
      have htz := HMz.out.txn.lt
      go_wp2
      go_loopw [19] (fun p wr => ∃ k : Nat, p = .int .i64 (k : Int) ∧ k ≤ B.length ∧ wr = wz) (fun p _ => B.length - (intOf p).toNat)
      case atStart => exact ⟨0, rfl, Nat.zero_le _, rfl⟩
      case round =>
        obtain ⟨k, rfl, hk, rfl⟩ := hrel
        by_cases hlt : k < B.length
        · obtain ⟨gc, oc, rfl, hgc, hc⟩ := CE.out (by omega)
          obtain ⟨c0, c1⟩ := hc k hlt
          have R0 := Lib.hid (RD.out k hlt _ HDz.out)
          obtain ⟨yy, hyy⟩ : ∃ yy, da + k = yy := ⟨_, rfl⟩
          rw [hyy] at c0 R0
          have hy2 : yy ≤ 4200 := by omega
          have EQ : (B[k].toList == B[k].toList) = true := by simp
          generalize B[k] = s at *
          clear hc CE hyy RD HN4 HT4
          go_wp2_with fail
          refine R0.out.mono ?_; rintro e w' ⟨rfl, rfl⟩
          go_wp2
          exact ⟨⟨k + 1, by go_num, by omega, by trivial⟩, by simp [intOf]; omega⟩
        · obtain rfl : k = B.length := by omega
          have AL := Lib.hid (alive_any _ (tabOf HT.out HMz.out.below))
          go_wp2_with fail
          refine AL.out.mono ?_; rintro e wf ⟨rfl, bf⟩
          have HF2 := Lib.hid (bnext HMz.out.below bf)
          clear bf
          go_wp2
          go_ret
          exact ⟨rfl, HF2.out⟩
    | true =>
      have MD := M.kept1 (Below.refl _ _).drew
      have g10 := MD.wld.log
      have s0 := MD.txn.cell 0
      have s1 := MD.txn.cell 1
      simp only [List.getElem?_toArray, List.getElem?_cons_zero, List.getElem?_cons_succ] at s0 s1
      clear M hba hsz
      go_upto_region 16 with fail
      go_region_held3 (fun w' => w'.cell? ⟨wd, 10, none⟩ = some (.pointer (some ⟨g, 0, none⟩)) ∧ w'.cell? ⟨tb, 0, none⟩ = some (.slice ad' B.length cap') ∧ w'.cell? ⟨tb, 1, none⟩ = some (.slice none 0 0)) (exact ⟨by assumption, by assumption, by assumption⟩) (first | (go_at_call 20; refine (C2.out S1 ha1 _ M1).mono ?_; rintro e w3b ⟨rfl, S2, ha2, M2⟩; have g11 := M2.wld.log; have s2' := M2.txn.cell 0; have s3' := M2.txn.cell 1; simp only [List.getElem?_toArray, List.getElem?_cons_zero, List.getElem?_cons_succ] at s2' s3') | (go_at_call 20; refine (C1.out _ MD).mono ?_; rintro e w3 ⟨rfl, S1, ha1, M1⟩; have g10' := M1.wld.log; have s0' := M1.txn.cell 0; have s1' := M1.txn.cell 1; simp only [List.getElem?_toArray, List.getElem?_cons_zero, List.getElem?_cons_succ] at s0' s1'))
      clear C1 C2 M1 ha1 ha2 g11 s2' s3'
      have M1 := M2
      clear M2
      have HM1 := Lib.hid M1
      have HPU := Lib.hid (M1.pure.opened HF.out M1.dev.ok)
      have KP := Lib.hid (kept_any _ M1.dev)
      clear M1 MD s0 s1 g10 s0' s1' g10'
      have d9 := HM1.out.wld.dev
      go_wp2_with fail
      refine KP.out.mono ?_; rintro e w4 ⟨rfl, b4⟩
      have HM4 := Lib.hid (HM1.out.kept1 b4)
      have OK4 := Lib.hid (open_kept _ HM1.out.dev w4)
      clear b4 KP HM1 d9
      go_wp2_with fail
      refine OK4.out.mono ?_; rintro e w5 ⟨d2, rfl, hd2, b5⟩
      have HM5 := Lib.hid (HM4.out.kept1 b5)
      have HD5 := Lib.hid hd2
      have HB5 := Lib.hid b5
      clear hd2 b5 OK4
      obtain ⟨S4, hn4, ht4, RP⟩ := replay_mk HOK.out HF.out HPU.out hB
      have RP := Lib.hid RP
      have HN4 := Lib.hid hn4
      have HT4 := Lib.hid ht4
      clear hn4 ht4 HPU
      obtain ⟨k0, k1, k2, k3, k4, k5, k6, k7, k8, k9, k10⟩ := wldG_cells HM5.out.wld
      go_wp2_with fail
      refine (RP.out d2 _ _ w5 HD5.out (tabOf HT.out HM5.out.below)).mono ?_; rintro e w6 ⟨vx, rfl, hx6, hd6, z6⟩
      have b46 : Below w4.heap.size w4 w6 := HB5.out.trans (z6.below HB5.out.size (Nat.le_refl _))
      have HM6 := Lib.hid (HM4.out.kept1 b46)
      have HD6 := Lib.hid hd6
      have HX6 := Lib.hid hx6
      clear k0 k1 k2 k3 k4 k5 k6 k7 k8 k9 k10 RP hd6 hx6 z6 b46 HM5 HD5 HB5 HM4
      have s0 := HM6.out.txn.cell 0
      have s1 := HM6.out.txn.cell 1
      simp only [List.getElem?_toArray, List.getElem?_cons_zero, List.getElem?_cons_succ] at s0 s1
      obtain ⟨q, hq⟩ : ∃ q, w6.heap.size = q := ⟨_, rfl⟩
      obtain ⟨w7, hw7⟩ : ∃ w7, w6.alloc (.cells #[.slice ad' B.length cap', .slice none 0 0] 64) = w7 := ⟨_, rfl⟩
      have T7 : Blk q #[.slice ad' B.length cap', .slice none 0 0] 64 w7 := by rw [← hw7, ← hq]; exact Blk.new _ _ _
      have b7 : Below w6.heap.size w6 w7 := by rw [← hw7]; exact balloc1 _ _
      have hsz7 : w7.heap.size = q + 1 := by rw [← hw7, size_alloc, hq]
      have HW7 := Lib.hid hw7
      have HQ := Lib.hid hq
      clear hw7 hq
      go_upto_region 21 with fail
      try rw [HQ.out]
      rw [HW7.out]
      have s0b := (HM6.out.kept1 b7).txn.cell 0
      have s1b := (HM6.out.kept1 b7).txn.cell 1
      simp only [List.getElem?_toArray, List.getElem?_cons_zero, List.getElem?_cons_succ] at s0b s1b
      have HROW := Lib.hid (World.ownsRow.alloc (own_lit T7) (.cells #[.slice ad' B.length cap', .slice none 0 0] 64))
      have HSZ := Lib.hid hsz7
      have HB7 := Lib.hid b7
      clear s0 s1 HW7 T7 hsz7 b7
      go_wp2_with (at_builtin; refine wpList_appTv rfl _ _ rfl q (.slice (some ⟨q, 0, none⟩) 1 1) 1 [.slice ad' B.length cap', .slice none 0 0] ad' none cap' 0 B.length 0 rfl HROW.out w7 rfl w7.heap.size rfl rfl (by omega) (by have := HSZ.out; rw [size_alloc]; omega) ?_)
      intro v8 w9 hv8 b8
      obtain ⟨a8, c8, e8, -⟩ := shape_of hv8
      subst e8
      have b69 : Below w6.heap.size w6 w9 := (balloc HB7.out _).trans (by rw [HQ.out]; exact b8)
      have SM := Lib.hid (sametx_yes vx (.slice a8 (1 + 1) c8) ([] ++ [⟨mkL da B, []⟩] ++ [⟨mkL da B, []⟩]) (by simp) (fun t ht => by
        have : t = ⟨mkL da B, []⟩ := by simpa using ht
        rw [this]; exact ⟨by show (mkL da B).length ≤ _; rw [mkL_length]; omega, rfl⟩) w9 (HX6.out.kept b69).in_ (txns_two hv8 (ownRow_in (HM6.out.kept1 b69).row)))
      have HB9 := Lib.hid b69
      clear b69 b8 hv8 HX6 HROW HSZ HB7 s0b s1b
      go_wp2_with fail
      refine SM.out.mono ?_; rintro e wz ⟨rfl, bz⟩
      have b6z := bnext HB9.out bz
      have HMz := Lib.hid (HM6.out.kept1 b6z)
      have HDz := Lib.hid (HD6.out.kept1 b6z)
      clear b6z bz SM HB9 HM6 HD6 HQ
      have RD := Lib.hid (read_mk (d := d2) (lo := w4.heap.size) (hi := w5.heap.size) HN4.out (by omega) HT4.out)
      have CE := Lib.hid HMz.out.cells
      have s0 := HMz.out.txn.cell 0
      simp only [List.getElem?_toArray, List.getElem?_cons_zero, List.getElem?_cons_succ] at s0
      have htz := HMz.out.txn.lt
      go_wp2
      go_loopw [19] (fun p wr => ∃ k : Nat, p = .int .i64 (k : Int) ∧ k ≤ B.length ∧ wr = wz) (fun p _ => B.length - (intOf p).toNat)
      case atStart => exact ⟨0, rfl, Nat.zero_le _, rfl⟩
      case round =>
        obtain ⟨k, rfl, hk, rfl⟩ := hrel
        by_cases hlt : k < B.length
        · obtain ⟨gc, oc, rfl, hgc, hc⟩ := CE.out (by omega)
          obtain ⟨c0, c1⟩ := hc k hlt
          have R0 := Lib.hid (RD.out k hlt _ HDz.out)
          obtain ⟨yy, hyy⟩ : ∃ yy, da + k = yy := ⟨_, rfl⟩
          rw [hyy] at c0 R0
          have hy2 : yy ≤ 4200 := by omega
          have EQ : (B[k].toList == B[k].toList) = true := by simp
          generalize B[k] = s at *
          clear hc CE hyy RD HN4 HT4
          go_wp2_with fail
          refine R0.out.mono ?_; rintro e w' ⟨rfl, rfl⟩
          go_wp2
          exact ⟨⟨k + 1, by go_num, by omega, by trivial⟩, by simp [intOf]; omega⟩
        · obtain rfl : k = B.length := by omega
          have AL := Lib.hid (alive_any _ (tabOf HT.out HMz.out.below))
          go_wp2_with fail
          refine AL.out.mono ?_; rintro e wf ⟨rfl, bf⟩
          have HF2 := Lib.hid (bnext HMz.out.below bf)
          clear bf
          go_wp2
          go_ret
          exact ⟨rfl, HF2.out⟩
end Go.Proofs.YtfllncliiihggaaGreatDoor
