/- The program's device in memory; missing, exists, act, block, Blocks, Dead, Acts, Arm. -/
import Derived.Test.YtehjobjjlldckaaGreatDSt
namespace Go.Proofs.YtehjobjjlldckaaGreat
set_option linter.unusedVariables false
open Go.RowKit

def devCells (d gn gk gp cn ck : Nat) (l : Int) (n acts : Nat) : Array Value :=
  #[.pointer (some ⟨d, 0, none⟩), .slice (some ⟨gn, 0, none⟩) (n * 128) cn, .slice (some ⟨gk, 0, none⟩) (n * 128) ck, .slice (some ⟨gp, 0, none⟩) n n, .int .i64 l, .int .i64 (acts : Int)]
/-- the device d, whose memory lies in the blocks from lo up to hi, is as S says -/
structure Dev (d lo hi gn gk gp cn ck : Nat) (l : Int) (S : St) (w : World) : Prop where
  ok : S.ok
  blk : Blk d (devCells d gn gk gp cn ck l S.n S.acts) 85 w
  now : CellsAt gn (S.n * 128) (byF S.now) w
  was : CellsAt gk (S.n * 128) (byF S.was) w
  pend : CellsAt gp S.n (fun j => .bool (S.pend j)) w
  left : noLess l = S.left
  i64 : I64 l
  cn : S.n * 128 ≤ cn ∧ cn ≤ 9223372036854775807
  ck : S.n * 128 ≤ ck ∧ ck ≤ 9223372036854775807
  zd : lo ≤ d ∧ d < hi
  zn : lo ≤ gn ∧ gn < hi
  zk : lo ≤ gk ∧ gk < hi
  zp : lo ≤ gp ∧ gp < hi
  top : hi ≤ w.heap.size
  a1 : d ≠ gn
  a2 : d ≠ gk
  a3 : d ≠ gp
  a4 : gn ≠ gk
  a5 : gn ≠ gp
  a6 : gk ≠ gp
def DevAt (d lo hi : Nat) (S : St) (w : World) : Prop := ∃ gn gk gp cn ck l, Dev d lo hi gn gk gp cn ck l S w
section
variable {d lo hi gn gk gp cn ck : Nat} {l : Int} {S : St} {w w' : World}
theorem Dev.at (h : Dev d lo hi gn gk gp cn ck l S w) : DevAt d lo hi S w := ⟨_, _, _, _, _, _, h⟩
theorem Dev.kept {lo' hi' : Nat} (h : Dev d lo hi gn gk gp cn ck l S w) (z : Zone lo' hi' w w') (hz : hi ≤ lo' ∨ hi' ≤ lo) : Dev d lo hi gn gk gp cn ck l S w' := by
  have zd := h.zd; have zn := h.zn; have zk := h.zk; have zp := h.zp
  exact ⟨h.ok, h.blk.kept z (by omega), h.now.kept z (by omega), h.was.kept z (by omega), h.pend.kept z (by omega), h.left, h.i64, h.cn, h.ck, zd, zn, zk, zp, Nat.le_trans h.top z.size, h.a1, h.a2, h.a3, h.a4, h.a5, h.a6⟩
theorem Dev.kept1 (h : Dev d lo hi gn gk gp cn ck l S w) (b : Below w.heap.size w w') : Dev d lo hi gn gk gp cn ck l S w' :=
  h.kept (Zone.of_below b hi hi) (.inl (Nat.le_refl _))
theorem DevAt.kept {lo' hi' : Nat} (h : DevAt d lo hi S w) (z : Zone lo' hi' w w') (hz : hi ≤ lo' ∨ hi' ≤ lo) : DevAt d lo hi S w' := by
  obtain ⟨_, _, _, _, _, _, h⟩ := h; exact (h.kept z hz).at
theorem DevAt.kept1 (h : DevAt d lo hi S w) (b : Below w.heap.size w w') : DevAt d lo hi S w' := by
  obtain ⟨_, _, _, _, _, _, h⟩ := h; exact (h.kept1 b).at
theorem DevAt.ok (h : DevAt d lo hi S w) : S.ok := by obtain ⟨_, _, _, _, _, _, h⟩ := h; exact h.ok
theorem DevAt.top (h : DevAt d lo hi S w) : hi ≤ w.heap.size := by obtain ⟨_, _, _, _, _, _, h⟩ := h; exact h.top
theorem DevAt.lohi (h : DevAt d lo hi S w) : lo < hi := by obtain ⟨_, _, _, _, _, _, h⟩ := h; have := h.zd; omega
theorem DevAt.widen {lo' hi' : Nat} (h : DevAt d lo hi S w) (h1 : lo' ≤ lo) (h2 : hi ≤ hi') (h3 : hi' ≤ w.heap.size) : DevAt d lo' hi' S w := by
  obtain ⟨gn, gk, gp, cn, ck, l, h⟩ := h
  have zd := h.zd; have zn := h.zn; have zk := h.zk; have zp := h.zp
  exact ⟨gn, gk, gp, cn, ck, l, h.ok, h.blk, h.now, h.was, h.pend, h.left, h.i64, h.cn, h.ck, by omega, by omega, by omega, by omega, h3, h.a1, h.a2, h.a3, h.a4, h.a5, h.a6⟩
theorem Dev.cells (h : Dev d lo hi gn gk gp cn ck l S w) :
    w.cell? ⟨d, 0, none⟩ = some (.pointer (some ⟨d, 0, none⟩)) ∧ w.cell? ⟨d, 1, none⟩ = some (.slice (some ⟨gn, 0, none⟩) (S.n * 128) cn) ∧ w.cell? ⟨d, 2, none⟩ = some (.slice (some ⟨gk, 0, none⟩) (S.n * 128) ck) ∧
    w.cell? ⟨d, 3, none⟩ = some (.slice (some ⟨gp, 0, none⟩) S.n S.n) ∧ w.cell? ⟨d, 4, none⟩ = some (.int .i64 l) ∧ w.cell? ⟨d, 5, none⟩ = some (.int .i64 (S.acts : Int)) :=
  ⟨h.blk.cell 0, h.blk.cell 1, h.blk.cell 2, h.blk.cell 3, h.blk.cell 4, h.blk.cell 5⟩
end

/-! ### pointers, compared -/
theorem dev_size : (Tryz.prog.info? 85).map (·.size) = some 6 := by kernel_rfl
theorem equal_none (w : World) (p : Addr) : ∀ d, (Op.equalIn (d + 1) 26 (.pointer none) (.pointer (some p))).run Tryz.prog w = .ok false w := fun d => by
  simp [Op.equalIn, run_underlying Tryz.underlying26]
theorem equal_self (w : World) (p : Addr) : ∀ d, (Op.equalIn (d + 1) 26 (.pointer (some p)) (.pointer (some p))).run Tryz.prog w = .ok true w := fun d => by
  obtain ⟨i, hi, hs⟩ := Option.map_eq_some_iff.1 dev_size
  simp [Op.equalIn, run_underlying Tryz.underlying26, sizeOf, typeInfo, hi, sameAddr]
theorem run_neq_none (w : World) (p : Addr) : (binOp .neq 26 (.pointer none) (.pointer (some p))).run Tryz.prog w = .ok (.bool true) w := by
  have h : (Op.equal 26 (.pointer none) (.pointer (some p))).run Tryz.prog w = .ok false w := equal_none w p 9999
  simp only [binOp]
  simp [h]
theorem run_neq_self (w : World) (p : Addr) : (binOp .neq 26 (.pointer (some p)) (.pointer (some p))).run Tryz.prog w = .ok (.bool false) w := by
  have h : (Op.equal 26 (.pointer (some p)) (.pointer (some p))).run Tryz.prog w = .ok true w := equal_self w p 9999
  simp only [binOp]
  simp [h]

/-! ### a device that is none -/
def NoDev (v : Value) (w : World) : Prop := v = .pointer none ∨ ∃ d, v = .pointer (some ⟨d, 0, none⟩) ∧ w.cell? ⟨d, 0, none⟩ = some (.pointer none)
theorem missing_yes (v : Value) (w : World) (h : NoDev v w) : Calls Tryz.prog 54 #[v] w fun e w' => e = .returned (.bool true) ∧ w = w' := by
  rcases h with rfl | ⟨d, rfl, h⟩
  · go_enter Tryz.func54, Tryz.ntmps54
    go_wp2
    go_ret
    exact ⟨rfl, rfl⟩
  · have hq := run_neq_none
    go_enter Tryz.func54, Tryz.ntmps54
    go_wp2
    go_ret
    exact ⟨rfl, rfl⟩
theorem missing_no (d : Nat) (w : World) (h : w.cell? ⟨d, 0, none⟩ = some (.pointer (some ⟨d, 0, none⟩))) :
    Calls Tryz.prog 54 #[.pointer (some ⟨d, 0, none⟩)] w fun e w' => e = .returned (.bool false) ∧ w = w' := by
  have hq := run_neq_self
  go_enter Tryz.func54, Tryz.ntmps54
  go_wp2
  go_ret
  exact ⟨rfl, rfl⟩
theorem exists_in (d gp n cap : Nat) (b : Nat) (hb : b < n) (hn : n ≤ 4096) (w : World) (h : w.cell? ⟨d, 3, none⟩ = some (.slice (some ⟨gp, 0, none⟩) n cap)) :
    Calls Tryz.prog 58 #[.pointer (some ⟨d, 0, none⟩), .int .i64 (b : Int)] w fun e w' => e = .returned (.bool true) ∧ w = w' := by
  go_enter Tryz.func58, Tryz.ntmps58
  go_wp2
  go_ret
  exact ⟨rfl, rfl⟩
theorem exists_out (d gp n cap : Nat) (b : Int) (hb : b < 0 ∨ (n : Int) ≤ b) (hn : n ≤ 4096) (w : World) (h : w.cell? ⟨d, 3, none⟩ = some (.slice (some ⟨gp, 0, none⟩) n cap)) :
    Calls Tryz.prog 58 #[.pointer (some ⟨d, 0, none⟩), .int .i64 b] w fun e w' => e = .returned (.bool false) ∧ w = w' := by
  rcases hb with hb | hb
  · go_enter Tryz.func58, Tryz.ntmps58
    go_wp2
    go_ret
    exact ⟨rfl, rfl⟩
  · have hb0 : 0 ≤ b := by omega
    go_enter Tryz.func58, Tryz.ntmps58
    go_wp2
    go_ret
    exact ⟨ret_bool (decide_eq_false (by omega)), rfl⟩
theorem block_any (g len cap b : Nat) (hb : b < 4096) (h1 : (b + 1) * 128 ≤ len) (h2 : len ≤ cap) (h3 : cap ≤ 9223372036854775807) (w : World) :
    Calls Tryz.prog 57 #[.slice (some ⟨g, 0, none⟩) len cap, .int .i64 (b : Int)] w fun e w' => e = .returned (.slice (some ⟨g, b * 128, none⟩) 128 (cap - b * 128)) ∧ w = w' := by
  have h4 : b * 128 < cap := by omega
  have h5 : ((b : Int) + 1) * 128 ≤ (cap : Int) := by omega
  have H6 := Lib.hid (show (b + 1) * 128 - b * 128 = 128 by omega)
  go_enter Tryz.func57, Tryz.ntmps57
  go_wp2
  go_ret
  exact ⟨by show Ending.returned (.slice _ ((b + 1) * 128 - b * 128) _) = _; rw [H6.out], rfl⟩
theorem act_no {d lo hi gn gk gp cn ck : Nat} {l : Int} {S : St} (w : World) (h : Dev d lo hi gn gk gp cn ck l S w) (h0 : S.left = 0) :
    Calls Tryz.prog 59 #[.pointer (some ⟨d, 0, none⟩)] w fun e w' => e = .returned (.bool false) ∧ w = w' := by
  have hl : l = 0 := by have := h.left; unfold noLess at this; split at this <;> omega
  obtain ⟨_, _, _, _, c4, _⟩ := h.cells
  subst hl
  clear h h0
  go_enter Tryz.func59, Tryz.ntmps59
  go_wp2
  go_ret
  exact ⟨rfl, rfl⟩
theorem act_yes {d lo hi gn gk gp cn ck : Nat} {l : Int} {S : St} (w : World) (h : Dev d lo hi gn gk gp cn ck l S w) (h0 : S.left ≠ 0) (ha : S.acts ≤ 1000000) :
    Calls Tryz.prog 59 #[.pointer (some ⟨d, 0, none⟩)] w fun e w' => e = .returned (.bool true) ∧ Dev d lo hi gn gk gp cn ck (lessOne l) S.acted w' ∧ Zone lo hi w w' := by
  have hl := h.left
  obtain ⟨_, _, _, _, c4, c5⟩ := h.cells
  have f4 := h.blk.frozen 4
  have f5 := h.blk.frozen 5
  have hi64 := h.i64
  have hleft : noLess (lessOne l) = S.acted.left := by
    show _ = lessOne S.left
    rw [← hl]; unfold noLess lessOne; split <;> split <;> (try split) <;> omega
  have hw : ∀ w2, Blk d (devCells d gn gk gp cn ck (lessOne l) S.n (S.acts + 1)) 85 w2 → w2.heap.size = w.heap.size → (∀ k, k ≠ d → w2.heap[k]? = w.heap[k]?) → Dev d lo hi gn gk gp cn ck (lessOne l) S.acted w2 := fun w2 hb hs hk =>
    ⟨acted_ok h.ok, hb, h.now.eq_block (by omega) (hk _ (Ne.symm h.a1)), h.was.eq_block (by omega) (hk _ (Ne.symm h.a2)), h.pend.eq_block (by omega) (hk _ (Ne.symm h.a3)), hleft, by unfold lessOne; split <;> (constructor <;> omega), h.cn, h.ck, h.zd, h.zn, h.zk, h.zp, by have := h.top; omega, h.a1, h.a2, h.a3, h.a4, h.a5, h.a6⟩
  have HW := Lib.hid hw
  have HB := Lib.hid h.blk
  have HZ := Lib.hid h.zd
  have hl0 : l ≠ 0 := fun e => h0 (by rw [← hl, e]; rfl)
  clear hw hleft hl h h0
  by_cases hp : 0 < l
  · have e : lessOne l = l - 1 := by unfold lessOne; rw [if_pos hp]
    rw [e] at HW ⊢
    clear e
    go_enter Tryz.func59, Tryz.ntmps59
    go_wp2
    go_ret
    refine ⟨rfl, HW.out _ ?_ (by simp [World.setCell]) (fun k hk => by rw [Below.heap_setCell _ _ _ _ (by simpa using hk), Below.heap_setCell _ _ _ _ (by simpa using hk)]), ((Zone.refl _ _ _).set HZ.out.1 HZ.out.2 _).set HZ.out.1 HZ.out.2 _⟩
    exact ((HB.out.set 4 _).set 5 _)
  · have e : lessOne l = l := by unfold lessOne; rw [if_neg hp]
    rw [e] at HW ⊢
    clear e
    go_enter Tryz.func59, Tryz.ntmps59
    go_wp2
    go_ret
    refine ⟨rfl, HW.out _ ?_ (by simp [World.setCell]) (fun k hk => by rw [Below.heap_setCell _ _ _ _ (by simpa using hk)]), (Zone.refl _ _ _).set HZ.out.1 HZ.out.2 _⟩
    exact (HB.out.set 5 _)
theorem arm_any {d lo hi : Nat} {S : St} (n : Int) (hn : I64 n) (w : World) (h : DevAt d lo hi S w) :
    Calls Tryz.prog 39 #[.pointer (some ⟨d, 0, none⟩), .int .i64 n] w fun e w' => e = .returned (.tuple #[]) ∧ DevAt d lo hi (S.armed n) w' ∧ Zone lo hi w w' := by
  obtain ⟨gn, gk, gp, cn, ck, l, h⟩ := h
  obtain ⟨c0, _, _, _, c4, _⟩ := h.cells
  have f4 := h.blk.frozen 4
  have M := Lib.hid (missing_no d w c0)
  have H := Lib.hid h
  clear h
  go_enter Tryz.func39, Tryz.ntmps39
  go_wp2_with fail
  refine M.out.mono ?_; rintro e w' ⟨rfl, rfl⟩
  go_wp2
  go_end0
  have h := H.out
  exact ⟨rfl, ⟨gn, gk, gp, cn, ck, n, armed_ok h.ok hn.2, h.blk.set 4 _, h.now.other h.a1 _, h.was.other h.a2 _, h.pend.other h.a3 _, rfl, hn, h.cn, h.ck, h.zd, h.zn, h.zk, h.zp, by have := h.top; simpa [World.setCell] using this, h.a1, h.a2, h.a3, h.a4, h.a5, h.a6⟩, (Zone.refl _ _ _).set h.zd.1 h.zd.2 _⟩
theorem acts_any {d lo hi : Nat} {S : St} (w : World) (h : DevAt d lo hi S w) :
    Calls Tryz.prog 16 #[.pointer (some ⟨d, 0, none⟩)] w fun e w' => e = .returned (.int .i64 (S.acts : Int)) ∧ w = w' := by
  obtain ⟨gn, gk, gp, cn, ck, l, h⟩ := h
  obtain ⟨c0, _, _, _, _, c5⟩ := h.cells
  have M := Lib.hid (missing_no d w c0)
  clear h
  go_enter Tryz.func16, Tryz.ntmps16
  go_wp2_with fail
  refine M.out.mono ?_; rintro e w' ⟨rfl, rfl⟩
  go_wp2
  go_ret
  exact ⟨rfl, rfl⟩
theorem blocks_any {d lo hi : Nat} {S : St} (w : World) (h : DevAt d lo hi S w) :
    Calls Tryz.prog 27 #[.pointer (some ⟨d, 0, none⟩)] w fun e w' => e = .returned (.int .i64 (S.n : Int)) ∧ w = w' := by
  obtain ⟨gn, gk, gp, cn, ck, l, h⟩ := h
  obtain ⟨c0, _, _, c3, _, _⟩ := h.cells
  have M := Lib.hid (missing_no d w c0)
  clear h
  go_enter Tryz.func27, Tryz.ntmps27
  go_wp2_with fail
  refine M.out.mono ?_; rintro e w' ⟨rfl, rfl⟩
  go_wp2
  go_ret
  exact ⟨rfl, rfl⟩
end Go.Proofs.YtehjobjjlldckaaGreat
