import Derived.Test.YtanghmogeiiooaaGreatDoorPa21
import Derived.Test.YtanghmogeiiooaaGreatDoorPa04
set_option linter.unusedVariables false
set_option linter.unusedSimpArgs false
set_option linter.constructorNameAsVariable false
/- Rows of numbers that a call makes, one appended behind the other; lists of those that are marked. -/
namespace Go.Proofs.YtanghmogeiiooaaGreatDoor
set_option linter.unusedVariables false
open Go.RowKit

theorem int_info : (Tryz.prog.info? 3).map (fun i => (i.zero, i.size, i.bytes)) = some (some (.int .i64 0), 1, 8) := by kernel_rfl
/-- v holds the numbers, in a row of the call's own, at B or behind -/
def natV (k : Nat) : Value := .int .i64 (k : Int)
abbrev NatsAt (B : Nat) (v : Value) (L : List Nat) (w : World) : Prop := w.ownsRow B 3 1 v L.length (L.map natV)
theorem new_one (w : World) (u : Value) (t : TypeId) : ∀ j v, [u][j]? = some v → (w.alloc (.cells #[u] t)).cell? ((⟨w.heap.size, 0, none⟩ : Addr).add j) = some v := fun j v hj => by
  rw [add_at, Nat.zero_add, World.cell?_alloc_mark]
  simpa using hj
theorem wpList_app1 {ops : Array Oper} {rest : List Oper} {o : Oper} {a : Act} {Q : Exit → Act → World → Prop} {w : World} (hgd : o.guard = none) (s x : Operand)
    (ho : o.op = .call { callee := .builtin .append, args := #[s, x], argTypes := #[56, 56] })
    (base : Nat) (v : Value) (L : List Nat) (k : Nat) (hs : a.eval s = v) (hown : NatsAt base v L w) (W : World) (hW : w = W.alloc (.cells #[.int .i64 (k : Int)] 3)) (hx : a.eval x = .slice (some ⟨W.heap.size, 0, none⟩) 1 1)
    (hlen : L.length ≤ 4000000) (hbase : base ≤ w.heap.size)
    (h : ∀ v' w', NatsAt base v' (L ++ [k]) w' → Below base w w' → wpList Tryz.prog ops Q rest (a.put o.dst v') w') : wpList Tryz.prog ops Q (o :: rest) a w := by
  obtain ⟨i0, hi, hz0, hz1, hz2⟩ := info_parts int_info
  subst hW
  refine wpList_append_own (w := W.alloc (.cells #[.int .i64 (k : Int)] 3)) hgd s x 56 ho base 3 i0 (.int .i64 0) 1 8 Tryz.underlying56 hi hz0 hz1 hz2 rfl (by decide) v _ _ hs hown ⟨W.heap.size, 0, none⟩ 1 1 [.int .i64 (k : Int)] hx rfl (new_one W _ _) (fun u hu => by simp at hu; subst hu; rfl) (by unfold maxLen; omega) (by omega) hbase ?_
  intro v' w' h1 h2 _
  refine h v' w' ?_ (below_of_row hown h2 hbase)
  show w'.ownsRow _ _ _ _ (L ++ [k]).length ((L ++ [k]).map _)
  rw [List.length_append, List.map_append]; exact h1
theorem pendL_len (p : Nat → Bool) (n : Nat) : (pendL p n).length ≤ n := by rw [pendL_length]; exact cntT_le p n
theorem pendL_yes {p : Nat → Bool} {n : Nat} (h : p n = true) : pendL p (n + 1) = pendL p n ++ [n] := by show (if p n then _ else _) = _; rw [if_pos h]
theorem pendL_no {p : Nat → Bool} {n : Nat} (h : p n = false) : pendL p (n + 1) = pendL p n := by show (if p n then _ else _) = _; rw [if_neg (by rw [h]; exact Bool.false_ne_true)]
end Go.Proofs.YtanghmogeiiooaaGreatDoor

/- Block, SameInts. -/
namespace Go.Proofs.YtanghmogeiiooaaGreatDoor
set_option linter.unusedVariables false
open Go.RowKit

/-! ### Block -/
def rep (b : Nat) : ByteArray := ⟨Array.replicate 128 (UInt8.ofNat b)⟩
theorem rep_size (b : Nat) : (rep b).size = 128 := by simp [rep, ByteArray.size]
theorem rep_at {b : Nat} (hb : b < 256) {j : Nat} (hj : j < 128) : byteAt (rep b) j = (b : Int) := by
  unfold byteAt rep
  simp [hj]
  omega
def fillF (b i : Nat) : Nat → Value := fun j => if j < i then .int .u8 (b : Int) else .int .u8 0
set_option maxRecDepth 100000 in
set_option maxHeartbeats 1000000 in
theorem block_of (b : Nat) (hb : b < 256) (w : World) :
    Calls Tryz.prog 50 #[.int .u8 (b : Int)] w fun e w' => e = .returned (.string (rep b)) ∧ Below w.heap.size w w' := by
  have hm : (Instr.makeSlice 43 (.int .i64 128) (.int .i64 128)).run Tryz.prog w = .ok (.slice (some ⟨w.heap.size, 0, none⟩) 128 128) (w.alloc (.cells (madeCells #[.int .u8 0] 128) 5)) := u8s_made 128 (by omega) w
  have hc : CellsAt w.heap.size 128 (fillF b 0) (w.alloc (.cells (madeCells #[.int .u8 0] 128) 5)) := CellsAt.alloc_new _ _ _ _ _ fun j hj => madeCells_at _ _ _ hj
  have hb0 : Below w.heap.size w (w.alloc (.cells (madeCells #[.int .u8 0] 128) 5)) := balloc1 _ _
  generalize (w.alloc (.cells (madeCells #[.int .u8 0] 128) 5)) = w1 at *
  go_enter Tryz.func50, Tryz.ntmps50
  go_wp2
  go_loopw [4] (fun q wr => ∃ i : Nat, q = .int .i64 i ∧ i ≤ 128 ∧ CellsAt w.heap.size 128 (fillF b i) wr ∧ Below w.heap.size w wr) (fun q _ => 128 - (intOf q).toNat)
  case atStart => exact ⟨0, rfl, Nat.zero_le _, hc, hb0⟩
  case round =>
    clear hc hb0
    obtain ⟨i, rfl, hi, hc, hbr⟩ := hrel
    by_cases hlt : i < 128
    · obtain ⟨q1, q2⟩ := hc.2 i hlt
      have HC : Hid (CellsAt w.heap.size 128 (fillF b (i + 1)) (wr.setCell ⟨w.heap.size, i, none⟩ (.int .u8 (b : Int)))) := Lib.hid ((hc.set hlt (.int .u8 (b : Int))).congr fun j hj => by
        unfold fillF
        by_cases e : j = i
        · subst e; rw [upd_same, if_pos (Nat.lt_succ_self j)]
        · rw [upd_other _ e]
          by_cases e2 : j < i
          · rw [if_pos e2, if_pos (by omega)]
          · rw [if_neg e2, if_neg (by omega)])
      clear hc
      generalize fillF b i i = u at *
      go_wp2
      exact ⟨⟨i + 1, by go_num, by omega, HC, hbr.setCell (Nat.le_refl _) _⟩, by simp [intOf]; omega⟩
    · obtain rfl : i = 128 := by omega
      have hr := u8_string (w := wr) ⟨w.heap.size, 0, none⟩ 128 (rep b) 128 (rep_size b) (fun j hj => by
        rw [add_at, Nat.zero_add, (hc.2 j hj).1, rep_at hb hj]
        unfold fillF; rw [if_pos hj])
      clear hc hm
      go_wp2
      go_ret
      exact ⟨rfl, hbr⟩

/-! ### SameInts -/
/-- v is a slice of the numbers, wherever they lie -/
abbrev NatsIn (v : Value) (L : List Nat) (w : World) : Prop := RowIn 1 v L.length (L.map natV) w
theorem natsAt_in {B : Nat} {v : Value} {L : List Nat} {w : World} (h : NatsAt B v L w) : NatsIn v L w := by
  rcases h.2 with ⟨rfl, h0⟩ | ⟨g, cap, cur, rfl, hbg, hg, hnc, hcm, hcs, htake⟩
  · have : L = [] := List.length_eq_zero_iff.1 h0
    subst this
    exact RowIn.nil 1 w
  · refine ⟨by simp, some ⟨g, 0, none⟩, cap, rfl, hnc, hcm, fun _ => ⟨g, 0, rfl, lt_of_block hg, fun k u hk => ?_⟩, fun h => by cases h⟩
    have hl := (List.getElem?_eq_some_iff.1 hk).1
    rw [Nat.zero_add, h.cellAt k (by rw [List.length_map] at hl; omega)]; exact hk
set_option maxHeartbeats 1000000 in
theorem same_yes (va vb : Value) (L : List Nat) (hL : L.length ≤ 4000000) (w : World) (ha : NatsIn va L w) (hb : NatsIn vb L w) :
    Calls Tryz.prog 56 #[va, vb] w fun e w' => e = .returned (.bool true) ∧ Below w.heap.size w w' := by
  obtain ⟨ada, capa, rfl, a1, a2, hada, -⟩ := ha.shape
  obtain ⟨adb, capb, rfl, b1, b2, hadb, -⟩ := hb.shape
  have HA := Lib.hid hada
  have HB := Lib.hid hadb
  clear ha hb hada hadb
  go_enter Tryz.func56, Tryz.ntmps56
  go_wp2
  go_loopw [5] (fun q wr => ∃ i : Nat, q = .int .i64 i ∧ i ≤ L.length ∧ Below w.heap.size w wr) (fun q _ => L.length - (intOf q).toNat)
  case atStart => exact ⟨0, rfl, Nat.zero_le _, Below.refl _ _⟩
  case round =>
    obtain ⟨i, rfl, hi, hbr⟩ := hrel
    by_cases hlt : i < L.length
    · obtain ⟨ga, oa, rfl, hga, hca⟩ := HA.out (by rw [List.length_map]; omega)
      obtain ⟨gb, ob, rfl, hgb, hcb⟩ := HB.out (by rw [List.length_map]; omega)
      have e1 : (L.map natV)[i]? = some (.int .i64 (L[i] : Int)) := by rw [List.getElem?_map, List.getElem?_eq_getElem hlt]; rfl
      have q1 := (hbr.cell (p := ⟨ga, oa + i, none⟩) hga).trans (hca i _ e1)
      have q2 := (hbr.cell (p := ⟨gb, ob + i, none⟩) hgb).trans (hcb i _ e1)
      generalize L[i] = z at *
      have d1 : ∀ q, (wr.drewN q).cell? ⟨ga, oa + i, none⟩ = some (.int .i64 (z : Int)) := fun _ => q1
      have d2 : ∀ q, (wr.drewN q).cell? ⟨gb, ob + i, none⟩ = some (.int .i64 (z : Int)) := fun _ => q2
      clear HA HB hca hcb e1 q1 q2
      go_wp2
      go_quiet (fail)
      go_wp2
      exact ⟨⟨i + 1, by go_num, by omega, below_drewN hbr _⟩, by simp [intOf]; omega⟩
    · obtain rfl : i = L.length := by omega
      clear HA HB
      go_wp2
      go_ret
      exact ⟨rfl, hbr⟩

end Go.Proofs.YtanghmogeiiooaaGreatDoor

/- Open. -/
namespace Go.Proofs.YtanghmogeiiooaaGreatDoor
set_option linter.unusedVariables false
set_option maxRecDepth 100000
open Go.RowKit

theorem bytes_cells (w : World) (s : ByteArray) (n cap : Nat) (hs : s.size = n * 128) (fr : Nat) (hf : s.size ≤ fr) : CellsAt w.heap.size (n * 128) (byF (blkOf 128 s)) (w.alloc (.cells (bytesRow s cap) 5 (fr, fr + 1))) :=
  ⟨by rw [size_alloc]; omega, fun j hj => by
    have hj2 : j < s.data.size := by have : s.data.size = s.size := rfl; omega
    refine ⟨?_, ?_⟩
    · rw [World.cell?_alloc_mark, bytesRow_at s cap j hj2]
      unfold byF
      have hz : blkOf 128 s (j / 128) = s.extract (j / 128 * 128) ((j / 128 + 1) * 128) := rfl
      have e : cat (blkOf 128 s) n = s := cat_blocks hs
      have h3 := cat_byte (f := blkOf 128 s) (n := n) (fun i hi => blkOf_size hs hi) j hj
      rw [e] at h3
      unfold byteAt
      rw [← h3, Array.getElem?_eq_getElem hj2]; rfl
    · rw [World.frozen?_alloc_mark]
      simp; omega⟩
theorem bytesRow_size (s : ByteArray) (cap : Nat) (h : s.size ≤ cap) : (bytesRow s cap).size = cap := by
  have : s.data.size = s.size := rfl
  simp [bytesRow]; omega
set_option maxHeartbeats 1000000 in
theorem open_yes (n : Nat) (s : ByteArray) (h1 : 1 ≤ n) (h2 : n ≤ 4096) (hs : s.size = n * 128) (w : World) :
    Calls Tryz.prog 11 #[.string s] w fun e w' => ∃ d, e = .returned (.tuple #[.pointer (some ⟨d, 0, none⟩), .int .i64 0]) ∧ DevAt d w.heap.size w'.heap.size (freshSt n (blkOf 128 s)) w' ∧ Below w.heap.size w w' := by
  have hm := run_bytes_of_string (P := Tryz.prog) w 9 43 5 s Tryz.underlying9 Tryz.underlying43 Tryz.underlying5
  have g1 := grownCap_ge w s.size 0 5
  have g2 := grownCap_le_maxLen w s.size 0 5 (by unfold maxLen; omega)
  unfold maxLen at g2
  have hc := bytes_cells w.drew s n (grownCap w s.size 0 5) hs (bytesRow s (grownCap w s.size 0 5)).size (by rw [bytesRow_size _ _ g1]; exact g1)
  have hb : Below w.heap.size w (w.drew.alloc (.cells (bytesRow s (grownCap w s.size 0 5)) 5 ((bytesRow s (grownCap w s.size 0 5)).size, (bytesRow s (grownCap w s.size 0 5)).size + 1))) := balloc (Below.refl _ _).drew _
  generalize (w.drew.alloc (.cells (bytesRow s (grownCap w s.size 0 5)) 5 ((bytesRow s (grownCap w s.size 0 5)).size, (bytesRow s (grownCap w s.size 0 5)).size + 1))) = w1 at *
  generalize grownCap w s.size 0 5 = cap at *
  have hc : CellsAt w.heap.size (n * 128) (byF (blkOf 128 s)) w1 := hc
  have M := Lib.hid (made_any w.heap.size n cap (blkOf 128 s) h1 h2 (fun i hi => blkOf_size hs hi) ⟨by omega, by omega⟩ w1 hc)
  have t1 : (s.toList == []) = false := ne_empty (by omega)
  have t2 : (s.size : Int) % 128 = 0 := by omega
  have t3 : ((s.size : Int) / 128) = (n : Int) := by omega
  have HS := Lib.hid hs
  have hs2 : ((s.size : Int)) = (n : Int) * 128 := by omega
  rw [hs] at hm
  clear hc hs g1 g2
  go_enter Tryz.func11, Tryz.ntmps11
  go_wp2_with fail
  refine M.out.mono ?_; rintro e w2 ⟨d, rfl, hd, b⟩
  have hb2 := bnext hb b
  have HD := Lib.hid hd
  clear b M hd
  go_wp2
  go_ret2
  exact ⟨d, rfl, HD.out, hb2⟩
theorem open_no (s : ByteArray) (h : s.size = 0 ∨ s.size % 128 ≠ 0 ∨ 4096 < s.size / 128) (hs : s.size ≤ maxLen) (w : World) :
    Calls Tryz.prog 11 #[.string s] w fun e w' => e = .returned (.tuple #[.pointer none, .int .i64 2]) ∧ w = w' := by
  by_cases h0 : s.size = 0
  · obtain rfl : s = ⟨#[]⟩ := by
      have : s.data.size = 0 := h0
      cases s; simp at this; subst this; rfl
    go_enter Tryz.func11, Tryz.ntmps11
    go_wp2
    go_ret2
    exact ⟨rfl, rfl⟩
  · have t1 : (s.toList == []) = false := ne_empty h0
    unfold maxLen at hs
    by_cases h3 : s.size % 128 = 0
    · have t2 : (s.size : Int) % 128 = 0 := by omega
      have t3 : 4096 < ((s.size : Int) / 128) := by omega
      go_enter Tryz.func11, Tryz.ntmps11
      go_wp2
      go_ret2
      exact ⟨rfl, rfl⟩
    · have t2 : ((s.size : Int) % 128 != 0) = true := by rw [bne_iff_ne]; omega
      go_enter Tryz.func11, Tryz.ntmps11
      go_wp2
      go_ret2
      exact ⟨rfl, rfl⟩
end Go.Proofs.YtanghmogeiiooaaGreatDoor

/- Pending, Crash, Kept. -/
namespace Go.Proofs.YtanghmogeiiooaaGreatDoor
set_option linter.unusedVariables false
set_option maxRecDepth 100000
open Go.RowKit

set_option maxHeartbeats 1000000 in
theorem pending_any {d lo hi : Nat} {S : St} (w : World) (h : DevAt d lo hi S w) :
    Calls Tryz.prog 18 #[.pointer (some ⟨d, 0, none⟩)] w fun e w' => ∃ v, e = .returned v ∧ NatsAt w.heap.size v (pends S) w' ∧ Below w.heap.size w w' := by
  obtain ⟨gn, gk, gp, cn, ck, l, h⟩ := h
  obtain ⟨c0, _, _, c3, _, _⟩ := h.cells
  have M := Lib.hid (missing_no d w c0)
  have hn := h.ok.hi
  have HP := Lib.hid h.pend
  have hgp : gp < w.heap.size := h.pend.1
  unfold pends
  clear h
  generalize S.n = n at *
  generalize S.pend = p at *
  go_enter Tryz.func18, Tryz.ntmps18
  go_wp2_with fail
  refine M.out.mono ?_; rintro e w' ⟨rfl, rfl⟩
  clear M
  go_wp2
  go_loopw [3, 13] (fun v q wr => ∃ k : Nat, q = .int .i64 k ∧ k ≤ n ∧ NatsAt w.heap.size v (pendL p k) wr ∧ Below w.heap.size w wr) (fun _ q _ => n - (intOf q).toNat)
  case atStart => exact ⟨0, rfl, Nat.zero_le _, World.ownsRow_nil _ _ _ _, Below.refl _ _⟩
  case round =>
    obtain ⟨k, rfl, hk, hown, hb⟩ := hrel
    by_cases hlt : k < n
    · have q1 : wr.cell? ⟨gp, k, none⟩ = some (.bool (p k)) := (hb.cell (p := ⟨gp, k, none⟩) hgp).trans (HP.out.2 k hlt).1
      have hlen := pendL_len p k
      cases hp : p k with
      | true =>
        rw [hp] at q1
        have HY := Lib.hid (pendL_yes hp)
        clear hp c0 c3
        have hs := hb.size
        go_wp2_with (at_builtin; refine wpList_app1 rfl _ _ rfl w.heap.size _ _ k rfl (hown.alloc _) wr rfl rfl (by omega) (by rw [size_alloc]; omega) ?_)
        intro v' w2 h2 b2
        have hb3 := (hb.alloc hs (.cells #[.int .i64 (k : Int)] 3)).trans b2
        rw [← HY.out] at h2
        clear hown hb b2 q1
        go_wp2
        exact ⟨⟨k + 1, by go_num, by omega, h2, hb3⟩, by simp [intOf]; omega⟩
      | false =>
        rw [hp] at q1
        rw [← pendL_no hp] at hown
        clear hp c0 c3
        go_wp2
        exact ⟨⟨k + 1, by go_num, by omega, hown, hb⟩, by simp [intOf]; omega⟩
    · obtain rfl : k = n := by omega
      go_wp2
      go_ret
      exact ⟨_, rfl, hown, hb⟩
end Go.Proofs.YtanghmogeiiooaaGreatDoor

/- Crash, Kept. -/
namespace Go.Proofs.YtanghmogeiiooaaGreatDoor
set_option linter.unusedVariables false
set_option maxRecDepth 100000
open Go.RowKit

theorem pendL_get {p : Nat → Bool} : ∀ {n i : Nat} (h : i < (pendL p n).length), (pendL p n)[i] < n ∧ p (pendL p n)[i] = true ∧ cntT p (pendL p n)[i] = i := by
  intro n i h
  obtain ⟨h1, h2⟩ := pendL_lt p (List.getElem_mem h)
  refine ⟨h1, h2, ?_⟩
  have h3 := pendL_at p h1 h2
  obtain ⟨h4, h5⟩ := List.getElem?_eq_some_iff.1 h3
  have hnd : ∀ n, (pendL p n).Pairwise (· < ·) := fun n => by
    induction n with
    | zero => exact List.Pairwise.nil
    | succ n ih =>
      unfold pendL
      split
      · exact List.pairwise_append.2 ⟨ih, by simp, fun a ha b hb => by rw [List.mem_singleton] at hb; subst hb; exact (pendL_lt p ha).1⟩
      · exact ih
  rcases Nat.lt_trichotomy (cntT p (pendL p n)[i]) i with hl | he | hg
  · have := List.pairwise_iff_getElem.1 (hnd n) _ _ h4 h hl
    omega
  · exact he
  · have := List.pairwise_iff_getElem.1 (hnd n) _ _ h h4 hg
    omega
/-- a crash's image, as far as the first i pending blocks were looked at -/
def imgAt (S : St) (keep : Nat → Bool) (i : Nat) : Nat → ByteArray := fun b => if S.pend b && decide (cntT S.pend b < i) && keep (cntT S.pend b) then S.now b else S.was b
theorem img_zero (S : St) (keep : Nat → Bool) (b : Nat) : imgAt S keep 0 b = S.was b := by unfold imgAt; simp
theorem img_size {S : St} (h : S.ok) (keep : Nat → Bool) (i : Nat) {b : Nat} (hb : b < S.n) : (imgAt S keep i b).size = 128 := by
  unfold imgAt; split
  · exact h.now b hb
  · exact h.was b hb
theorem cnt_inj {p : Nat → Bool} {a b : Nat} (ha : p a = true) (hb : p b = true) (h : cntT p a = cntT p b) : a = b := by
  rcases Nat.lt_trichotomy a b with hl | he | hg
  · have := cntT_lt p hl ha; omega
  · exact he
  · have := cntT_lt p hg hb; omega
theorem img_yes {S : St} {keep : Nat → Bool} {i b : Nat} (hp : S.pend b = true) (hc : cntT S.pend b = i) (hk : keep i = true) (x : Nat) : imgAt S keep (i + 1) x = upd (imgAt S keep i) b (S.now b) x := by
  by_cases e : x = b
  · subst e
    rw [upd_same]; unfold imgAt; rw [hp, hc, hk]; simp
  · rw [upd_other _ e]
    unfold imgAt
    cases hx : S.pend x with
    | false => simp
    | true =>
      have hne : cntT S.pend x ≠ i := fun h => e (cnt_inj hx hp (h.trans hc.symm))
      have : decide (cntT S.pend x < i + 1) = decide (cntT S.pend x < i) := by
        by_cases h : cntT S.pend x < i
        · rw [decide_eq_true h, decide_eq_true (by omega)]
        · rw [decide_eq_false h, decide_eq_false (by omega)]
      rw [this]
theorem img_no {S : St} {keep : Nat → Bool} {i : Nat} (hk : keep i = false) (x : Nat) : imgAt S keep (i + 1) x = imgAt S keep i x := by
  unfold imgAt
  by_cases h : cntT S.pend x = i
  · rw [h, hk]; simp
  · have : decide (cntT S.pend x < i + 1) = decide (cntT S.pend x < i) := by
      by_cases h : cntT S.pend x < i
      · rw [decide_eq_true h, decide_eq_true (by omega)]
      · rw [decide_eq_false h, decide_eq_false (by omega)]
    rw [this]
theorem img_end {S : St} {keep : Nat → Bool} {x : Nat} (hx : x < S.n) : imgAt S keep (pends S).length x = crashAt S.now S.was S.pend keep x := by
  unfold imgAt crashAt
  cases hp : S.pend x with
  | false => simp
  | true =>
    have : cntT S.pend x < (pends S).length := by unfold pends; rw [pendL_length]; exact cntT_lt _ hx hp
    simp [this]
theorem keepOf_lt {K : List Bool} {i : Nat} (h : i < K.length) : keepOf K i = K[i] := by unfold keepOf; rw [List.getElem?_eq_getElem h]; rfl
theorem keepOf_ge {K : List Bool} {i : Nat} (h : K.length ≤ i) : keepOf K i = false := by unfold keepOf; rw [List.getElem?_eq_none h]; rfl
theorem sets_part {w : World} {g N b : Nat} {f h : Nat → ByteArray} (hc : CellsAt g (N * 128) (byF f) w) (hb : b < N) : CellsAt g (N * 128) (byF (upd f b (h b))) (w.setCells g (b * 128) (cellsL 128 fun j => byF h (b * 128 + j))) := by
  have hl := cellsL_length 128 fun j => byF h (b * 128 + j)
  refine hc.sets (by omega) _ (fun j hj => ?_) fun j hj hn => ?_
  · rw [cellsL_at]
    unfold byF
    rw [show (b * 128 + j) / 128 = b by omega, upd_same]
  · unfold byF
    rw [upd_other _ (by omega)]
theorem byF_congr {f g : Nat → ByteArray} {N : Nat} (h : ∀ x, x < N → f x = g x) (j : Nat) (hj : j < N * 128) : byF f j = byF g j := by unfold byF; rw [h _ (by omega)]
theorem block_below {g len cap b : Nat} (hb : b < 4096) (h1 : (b + 1) * 128 ≤ len) (h2 : len ≤ cap) (h3 : cap ≤ 9223372036854775807) (w : World) :
    Calls Tryz.prog 34 #[.slice (some ⟨g, 0, none⟩) len cap, .int .i64 (b : Int)] w fun e w' => e = .returned (.slice (some ⟨g, b * 128, none⟩) 128 (cap - b * 128)) ∧ Below w.heap.size w w' :=
  (block_any g len cap b hb h1 h2 h3 w).mono fun e w' ⟨he, hw⟩ => by subst hw; exact ⟨he, Below.refl _ _⟩

set_option maxHeartbeats 4000000 in
theorem crash_any {d lo hi : Nat} {S : St} (K : List Bool) (kv : Value) (w : World) (h : DevAt d lo hi S w) (hkv : RowIn 1 kv K.length (K.map Value.bool) w) :
    Calls Tryz.prog 12 #[.pointer (some ⟨d, 0, none⟩), kv] w fun e w' => e = .returned (.string (crashT S K)) ∧ Below w.heap.size w w' := by
  have mixed : Tryz.prog.follows .mixedOrders = true := by kernel_rfl
  have P := Lib.hid fun w1 (h1 : DevAt d lo hi S w1) => pending_any w1 h1
  obtain ⟨gn, gk, gp, cn, ck, l, h⟩ := h
  obtain ⟨c0, c1, c2, _, _, _⟩ := h.cells
  have M := Lib.hid (missing_no d w c0)
  have hn := h.ok.hi
  have hlo := h.ok.lo
  have C := Lib.hid (clone_any gk (S.n * 128) ck (byF S.was) (fun j _ => byF_one _ j) (by omega) (by omega) h.ck w h.was)
  obtain ⟨adk, capk, rfl, hk1, hk2, hk3, -⟩ := hkv.shape
  have HK3 := Lib.hid hk3
  have H := Lib.hid h
  have HO := Lib.hid h.ok
  have top := h.top
  clear h hkv c1 hk3
  go_enter Tryz.func12, Tryz.ntmps12
  go_wp2_with fail
  refine M.out.mono ?_; rintro e w' ⟨rfl, rfl⟩
  go_wp2_with fail
  refine C.out.mono ?_; rintro e w1 ⟨gi, ci, rfl, ⟨ci1, ci2⟩, hi1, gi1, gi2, b1⟩
  have P1 := Lib.hid (P.out w1 (H.out.kept1 b1).at)
  clear M C c0 c2 P
  go_wp2_with fail
  refine P1.out.mono ?_; rintro e w2 ⟨v, rfl, hv, b2⟩
  have hb2 := bnext b1 b2
  have HD := Lib.hid (H.out.kept1 hb2)
  have hi2 := hi1.kept1 b2
  have HI := Lib.hid (hi2.congr (G := byF (imgAt S (keepOf K) 0)) fun j hj => byF_congr (N := S.n) (fun x _ => (img_zero S (keepOf K) x).symm) j hj)
  obtain ⟨adL, capL, rfl, hL1, hL2, hL3⟩ := shape_of hv
  have hL2 : capL ≤ 9223372036854775807 := hL2
  have hLn : (pends S).length ≤ S.n := pendL_len _ _
  have HV := Lib.hid hv
  have HL3 := Lib.hid hL3
  obtain ⟨hs1, hs2⟩ : w1.heap.size ≤ w2.heap.size ∧ w.heap.size ≤ w2.heap.size := ⟨b2.size, hb2.size⟩
  clear P1 hi1 hi2 hv hL3 b1 b2 H
  go_wp2
  go_loopw [6, 7, 18] (fun _ _ q wr => ∃ i : Nat, q = .int .i64 i ∧ i ≤ (pends S).length ∧ Hid (CellsAt gi (S.n * 128) (byF (imgAt S (keepOf K) i)) wr) ∧ Zone gi (gi + 1) w2 wr) (fun _ _ q _ => (pends S).length - (intOf q).toNat)
  case atStart => exact ⟨0, rfl, Nat.zero_le _, HI, Zone.refl _ _ _⟩
  case round =>
    obtain ⟨i, rfl, hi, HC, hz⟩ := hrel
    by_cases hlt : i < (pends S).length
    · obtain ⟨gL, rfl, hgL, hgL2⟩ := HL3.out (by omega)
      obtain ⟨p1, p2, p3⟩ := pendL_get (p := S.pend) (n := S.n) hlt
      have q1 : wr.cell? ⟨gL, i, none⟩ = some (natV (pends S)[i]) := by
        have h1 := HV.out.cellAt i (by omega)
        have e1 : ((pends S).map natV)[i]? = some (natV (pends S)[i]) := by rw [List.getElem?_map, List.getElem?_eq_getElem hlt]; rfl
        rw [e1] at h1
        exact (World.cell?_of_block (a := ⟨gL, i, none⟩) (hz.block gL hgL2 (.inr (by omega)))).trans h1
      unfold natV at q1
      have p1 : (pends S)[i] < S.n := p1
      have P2 : Hid (S.pend (pends S)[i] = true) := Lib.hid p2
      have P3 : Hid (cntT S.pend (pends S)[i] = i) := Lib.hid p3
      clear p2 p3
      generalize (pends S)[i] = b at *
      by_cases hki : i < K.length
      · obtain ⟨gq, oq, rfl, hgq, hcq⟩ := HK3.out (by rw [List.length_map]; omega)
        have q2 : wr.cell? ⟨gq, oq + i, none⟩ = some (.bool K[i]) := by
          have h1 := hcq i (.bool K[i]) (by rw [List.getElem?_map, List.getElem?_eq_getElem hki]; rfl)
          have h2 : w2.cell? ⟨gq, oq + i, none⟩ = some (.bool K[i]) := (hb2.cell (p := ⟨gq, oq + i, none⟩) hgq).trans h1
          exact (World.cell?_of_block (a := ⟨gq, oq + i, none⟩) (hz.block gq (by show gq < _; omega) (.inl (by show gq < _; omega)))).trans h2
        have hkeep := keepOf_lt hki
        generalize K[i] = kb at *
        cases kb with
        | true =>
          have hD := HD.out.kept hz (.inl (by omega))
          have c1 : ∀ p : BelowP wr, p.to.cell? ⟨d, 1, none⟩ = some (.slice (some ⟨gn, 0, none⟩) (S.n * 128) cn) := fun p => (hD.kept1 p.h).blk.cell 1
          have B1 := Lib.hid (block_below (g := gi) (len := S.n * 128) (cap := ci) (b := b) (by omega) (by omega) ci1 ci2)
          have B2 := Lib.hid (block_below (g := gn) (len := S.n * 128) (cap := cn) (b := b) (by omega) (by omega) HD.out.cn.1 HD.out.cn.2)
          have HDr := Lib.hid hD
          have HS := Lib.hid fun x (_ : x < S.n) => img_yes (S := S) (keep := keepOf K) P2.out P3.out hkeep x
          have hgir := HC.out.1
          clear hD HK3 hcq hgq hkeep
          go_wp2
          refine wp_region_tail_below 9 mixed (by kernel_rfl) ?_
          simp only [List.take_succ_cons, List.take_zero, List.drop_succ_cons, List.drop_zero]
          repeat (go_big_quiet_step (first | (go_at_call_of 34 ci; refine calls_below (B1.out _)) | (go_at_call_of 34 cn; refine calls_below (B2.out _))))
          refine wpQuiet_nil ?_
          intro w0q hw'
          obtain ⟨⟨wq, bq⟩, hw''⟩ := hw'
          have hw2 : wq = w0q := hw''.symm
          clear hw''
          subst hw2
          have hq1 := HC.out.kept1 bq
          have hq2 := (HDr.out.kept1 bq).now
          have hcp := fun ty => run_copy_over (ty := ty) (o := b * 128) (o' := b * 128) (cap := ci - b * 128) (cap' := cn - b * 128) (n := 128) hq1 hq2 (by omega) (by omega) (fun j _ => byF_one _ _)
          have hz3 := ((hz.trans (Zone.of_below bq gi (gi + 1))).sets (Nat.le_refl gi) (Nat.lt_succ_self gi) (b * 128) (cellsL 128 fun j => byF S.now (b * 128 + j)))
          have HC3 := Lib.hid ((sets_part (h := S.now) hq1 p1).congr (G := byF (imgAt S (keepOf K) (i + 1))) fun j hj => byF_congr (N := S.n) (fun x hx => (HS.out x hx).symm) j hj)
          obtain ⟨w4, hw4⟩ : ∃ w4, w4 = wq.setCells gi (b * 128) (cellsL 128 fun j => byF S.now (b * 128 + j)) := ⟨_, rfl⟩
          rw [← hw4] at hcp hz3 HC3
          clear hw4 hq1 hq2 c1 q1 q2 HC HS HDr bq B1 B2 hgir
          go_wp2_with (simp only [hcp])
          exact ⟨⟨i + 1, by go_num, by omega, HC3, hz3⟩, by simp [intOf]; omega⟩
        | false =>
          have HC3 := Lib.hid (HC.out.congr (G := byF (imgAt S (keepOf K) (i + 1))) fun j hj => byF_congr (N := S.n) (fun x hx => (img_no (S := S) (keep := keepOf K) hkeep x).symm) j hj)
          clear HC HK3 hcq hgq hkeep
          go_wp2
          exact ⟨⟨i + 1, by go_num, by omega, HC3, hz⟩, by simp [intOf]; omega⟩
      · have hkeep := keepOf_ge (K := K) (i := i) (by omega)
        have HC3 := Lib.hid (HC.out.congr (G := byF (imgAt S (keepOf K) (i + 1))) fun j hj => byF_congr (N := S.n) (fun x hx => (img_no (S := S) (keep := keepOf K) hkeep x).symm) j hj)
        clear HC HK3 hkeep
        go_wp2
        exact ⟨⟨i + 1, by go_num, by omega, HC3, hz⟩, by simp [intOf]; omega⟩
    · obtain rfl : i = (pends S).length := by omega
      have hr := read_all (cap := ci) HC.out (fun b hb => img_size HO.out _ _ hb)
      rw [cat_congr fun x hx => img_end (S := S) (keep := keepOf K) hx] at hr
      have hbz := hz.below (B := w.heap.size) (by omega) gi1
      have hbb := (hb2.trans hbz)
      clear HC HK3 HL3
      go_wp2
      go_ret
      exact ⟨rfl, hbb⟩
theorem kept_any {d lo hi : Nat} {S : St} (w : World) (h : DevAt d lo hi S w) :
    Calls Tryz.prog 22 #[.pointer (some ⟨d, 0, none⟩)] w fun e w' => e = .returned (.string (cat S.was S.n)) ∧ Below w.heap.size w w' := by
  have e : crashT S [] = cat S.was S.n := cat_congr fun i hi => by
    unfold crashAt keepOf; simp
  have C := Lib.hid (crash_any [] (.slice none 0 0) w h (RowIn.nil 1 w))
  rw [e] at C
  clear h
  go_enter Tryz.func22, Tryz.ntmps22
  go_wp2_with fail
  refine C.out.mono ?_; rintro e w' ⟨rfl, hb⟩
  go_wp2
  go_ret
  exact ⟨rfl, hb⟩
end Go.Proofs.YtanghmogeiiooaaGreatDoor
