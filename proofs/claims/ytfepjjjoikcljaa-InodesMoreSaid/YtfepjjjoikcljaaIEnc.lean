/- Encode, the program's. -/
import Derived.Test.YtfepjjjoikcljaaIFields
namespace Go.Proofs.Ytfepjjjoikcljaa
set_option linter.unusedVariables false
open Go.RowKit

abbrev inoRet (b : ByteArray) : Ending := .returned (.tuple #[.string b, .int .i64 0])
abbrev inoBad : Ending := .returned (.tuple #[.string ⟨#[]⟩, .int .i64 2])
theorem ienc_no (x : Ino) (hf : fitE x.root) (h : ¬ InoOk x) (v : Value) (w : World) (hv : EntsIn v x.root w) :
    Calls Try.prog 9 #[inoV x v] w fun e w' => e = inoBad ∧ Below w.heap.size w w' := by
  have C := icheck_any x hf v (w.alloc (.cells (inoC x v) 24)) (hv.kept (balloc1 _ _))
  rw [decide_eq_false h] at C
  have C := Lib.hid C
  have hB0 := balloc1 w (.cells (inoC x v) 24)
  obtain ⟨ad, cap, rfl, -⟩ := entsIn_cells hv
  obtain ⟨kd, pn, lk, sz, dp, rt⟩ := x
  dsimp only at *
  clear h hf hv
  go_enter Try.func9, Try.ntmps9
  go_wp2_with fail
  refine C.out.mono ?_; rintro e w1 ⟨rfl, b1⟩
  go_wp2
  go_ret2
  exact ⟨rfl, bnext hB0 b1⟩
theorem fdEs_low : ∀ (l : List Ent) (i : Nat), (∀ e ∈ l, (0 ≤ e.log ∧ e.log ≤ 4096) ∧ (0 ≤ e.phys ∧ e.phys ≤ 4096) ∧ (0 ≤ e.len ∧ e.len ≤ 4096)) → ∀ f ∈ fdEs i l, f.len ≤ 262144
  | [], _, _, f, hf => by simp [fdEs] at hf
  | e :: l, i, h, f, hf => by
    rw [fdEs, List.mem_append] at hf
    rcases hf with hf | hf
    · have := h e (by simp)
      simp only [fdE, fd, List.mem_cons, List.not_mem_nil, or_false] at hf
      rcases hf with rfl | rfl | rfl <;> simp only <;> omega
    · exact fdEs_low l (i + 1) (fun y hy => h y (by simp [hy])) f hf
theorem fdK_low {x : Ino} (h : InoOk x) : ∀ f ∈ fdK x x.root.length, f.len ≤ 262144 := by
  have hn := ok_nums h
  have h4 := ok_short h
  intro f hf
  unfold fdK at hf
  rw [List.mem_append, List.take_length] at hf
  rcases hf with hf | hf
  · simp only [fd6, fd, List.mem_cons, List.not_mem_nil, or_false] at hf
    have hp : pinB x.pinned ≤ 1 := by unfold pinB; split <;> omega
    rcases hf with rfl | rfl | rfl | rfl | rfl | rfl <;> simp only <;> omega
  · refine fdEs_low _ 0 (fun e he => ?_) f hf
    obtain ⟨i, hi, rfl⟩ := List.getElem_of_mem he
    have := entOk_low (ok_ent h hi)
    rw [eat_eq hi] at this
    omega
/-- the cells of element k of an owned row of triples -/
theorem tri_row {B g n cap : Nat} {e : TypeId} {L : List Ent} {w : World} (h : w.ownsRow B e 3 (.slice (some ⟨g, 0, none⟩) n cap) n (cellsE L)) {k : Nat} (hk : k < L.length) :
    w.cell? ⟨g, k * 3, none⟩ = some (.int .i64 (eat L k).log) ∧ w.cell? ⟨g, k * 3 + 1, none⟩ = some (.int .i64 (eat L k).phys) ∧ w.cell? ⟨g, k * 3 + 2, none⟩ = some (.int .i64 (eat L k).len) := by
  have hn : n * 3 = L.length * 3 := by rw [← cellsE_length, ← h.1]
  obtain ⟨h1, h2, h3⟩ := cellsE_at L k hk
  exact ⟨(h.cellAt _ (by omega)).trans h1, (h.cellAt _ (by omega)).trans h2, (h.cellAt _ (by omega)).trans h3⟩
set_option maxRecDepth 100000 in
set_option maxHeartbeats 4000000 in
theorem ienc_yes (x : Ino) (h : InoOk x) (v : Value) (w : World) (hf : fitE x.root) (hv : EntsIn v x.root w) :
    Calls Try.prog 9 #[inoV x v] w fun e w' => e = inoRet (ino x) ∧ Below w.heap.size w w' := by
  have C := icheck_any x hf v (w.alloc (.cells (inoC x v) 24)) (hv.kept (balloc1 _ _))
  rw [decide_eq_true h] at C
  have C := Lib.hid C
  have hS0 : InoAt w.heap.size x v (w.alloc (.cells (inoC x v) 24)) := Blk.new _ _ _
  have hB0 := balloc1 w (.cells (inoC x v) 24)
  have RP := Lib.hid (fun w => repeat_any 64 (by omega) w)
  have z0 : (bs (zeroL 64)).size = 64 := by rw [bs_size, zeroL_length]
  have HZ := Lib.hid (part_zero x)
  have h4 := ok_short h
  have FL := Lib.hid fun w1 (hb : Below w.heap.size w w1) => ifields_any x h4 v w1 (hv.kept hb)
  have HL := lenK h
  have hcon := consecK h
  have hlow := fdK_low h
  have HE := part_all h
  have hlen := fdK_length x (Nat.le_refl _)
  rw [← HE]
  generalize fdK x x.root.length = L at *
  obtain ⟨F, hF⟩ : ∃ F : Nat → Bool, ∀ j, F j = putIntOk (partF L j).size (eat L j).log (eat L j).phys (eat L j).len := ⟨_, fun _ => rfl⟩
  have HP : Hid (∀ j, j < L.length → ∀ w, Calls Try.prog 19 #[.string (partF L j), .int .i64 (eat L j).log, .int .i64 (eat L j).phys, .int .i64 (eat L j).len] w fun e w' => e = .returned (.tuple #[.string (partF L (j + 1)), .bool (F j)]) ∧ Below w.heap.size w w') := Lib.hid fun j hj w => by
    have := putInt_any (partF L j) (by rw [partF_size HL j]; unfold maxLen; omega) (eat L j).log (eat L j).phys (eat L j).len (by rw [eat_eq hj]; have := hlow _ (List.getElem_mem hj); omega) w
    rw [← hF] at this
    rw [show putIntV (partF L j) (eat L j).log (eat L j).phys (eat L j).len = partF L (j + 1) by rw [eat_eq hj]; exact partF_put hcon HL hj] at this
    exact this
  obtain ⟨ad, cap, rfl, -⟩ := entsIn_cells hv
  obtain ⟨kd, pn, lk, sz, dp, rt⟩ := x
  dsimp only at *
  have h1000 : L.length ≤ 18 := by omega
  generalize partF L = PS at *
  clear h hF hf HE hv hcon hlow HL hlen h4
  go_enter Try.func9, Try.ntmps9
  go_wp2_with fail
  refine C.out.mono ?_; rintro e w1 ⟨rfl, b1⟩
  have hS1 := hS0.kept1 b1
  have hB1 := bnext hB0 b1
  clear hS0 hB0 b1 C
  go_wp2_with fail
  refine (RP.out _).mono ?_; rintro e w2 ⟨rfl, b2⟩
  have hS2 := hS1.kept1 b2
  have hB2 := bnext hB1 b2
  clear hS1 hB1 b2 RP
  obtain ⟨c0, c1, c2, c3, c4, c5⟩ := InoAt.cells hS2
  dsimp only at *
  rw [HZ.out]
  go_wp2_with fail
  refine (FL.out _ hB2).mono ?_; rintro e w3 ⟨v3, rfl, hR3, b3⟩
  have hB3 := bnext hB2 b3
  obtain ⟨ad3, cap3, rfl, p1, p2, p3⟩ := shape_of hR3
  have p2 : cap3 ≤ 9223372036854775807 := p2
  clear hS2 b3 z0 FL c0 c1 c2 c3 c4 c5
  have hsz := hB2.size
  have hR3 := row_down (show w.heap.size ≤ w2.heap.size by omega) hR3
  go_wp2
  go_loopw [4, 14] (fun bv q wr => ∃ k : Nat, q = .int .i64 k ∧ bv = .string (PS k) ∧ k ≤ L.length ∧ FldsAt w.heap.size (.slice ad3 L.length cap3) L wr ∧ Below w.heap.size w wr) (fun _ q _ => L.length - (intOf q).toNat)
  case atStart => exact ⟨0, rfl, rfl, by omega, hR3, hB3⟩
  case round =>
    clear hR3 hB3
    obtain ⟨k, rfl, rfl, hk, hR, hB⟩ := hrel
    by_cases hlt : k < L.length
    · obtain ⟨g, rfl, -, -⟩ := p3 (by omega)
      obtain ⟨q1, q2, q3⟩ := tri_row hR hlt
      have PC := Lib.hid (HP.out k hlt)
      have HRH := Lib.hid hR
      have hB1 := balloc hB (.cells (entC (eat L k)) 44)
      clear hR
      generalize eat L k = yk at *
      obtain ⟨ya, yp, yz⟩ := yk
      dsimp only at *
      go_wp2_with fail
      refine (PC.out _).mono ?_; rintro e w5 ⟨rfl, b5⟩
      have hR5 := row_kept (HRH.out.alloc _) b5
      have hB5 := bnext hB1 b5
      clear HRH hB b5 hB1 q1 q2 q3
      go_wp2
      exact ⟨⟨k + 1, by go_num, rfl, by omega, hR5, hB5⟩, by simp [intOf]; omega⟩
    · obtain rfl : k = L.length := by omega
      go_wp2
      go_ret2
      exact ⟨rfl, hB⟩
end Go.Proofs.Ytfepjjjoikcljaa
