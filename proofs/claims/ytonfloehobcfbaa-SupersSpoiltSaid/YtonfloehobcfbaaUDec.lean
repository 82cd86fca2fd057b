/- read, Decode. -/
import Derived.Test.YtonfloehobcfbaaUREnc
namespace Go.Proofs.Ytonfloehobcfbaa
set_option linter.unusedVariables false
open Go.RowKit

def numX (b : ByteArray) (i : Nat) : Int := (intV b (8 + 4 * (i : Int)) 4 : Int)
def readX (b : ByteArray) : Sup :=
  { blocks := numX b 0, log := numX b 1, inodes := numX b 2, cursor := numX b 3, inode := numX b 4, logical := numX b 5, from_ := numX b 6, to_ := numX b 7, len := numX b 8, moved := numX b 9 }
theorem readX_at (b : ByteArray) (i : Nat) (hi : i < 10) : fldAt (readX b) i = numX b i := by
  match i, hi with
  | 0, _ => rfl | 1, _ => rfl | 2, _ => rfl | 3, _ => rfl | 4, _ => rfl | 5, _ => rfl | 6, _ => rfl | 7, _ => rfl | 8, _ => rfl | 9, _ => rfl
theorem numX_in {b : ByteArray} {i : Nat} (h : 8 + 4 * i + 4 ≤ b.size) : numX b i = numAt b i := by
  unfold numX numAt
  have e : (8 + 4 * (i : Int)) = ((8 + 4 * i : Nat) : Int) := by omega
  have e4 : (4 : Int) = ((4 : Nat) : Int) := rfl
  have hok : fieldOk b.size ((8 + 4 * i : Nat) : Int) ((4 : Nat) : Int) = true := by unfold fieldOk; simp; omega
  have hlt : leN (fieldAt b (8 + 4 * i) 4) < 9223372036854775808 := by
    have h2 := leN_lt (fieldAt b (8 + 4 * i) 4)
    rw [fieldAt_length b _ 4 h] at h2
    omega
  unfold intV intOk
  rw [e, e4, hok, getV_yes hok, decide_eq_true hlt]; rfl
theorem readX_in {b : ByteArray} (h : b.size = 128) : readX b = readS b :=
  fldAt_all fun i hi => by rw [readX_at b i hi, readS_at b i hi, numX_in (by omega)]
theorem isSup_iff (b : ByteArray) : (SupOk (readX b) ∧ sup (readX b) = b) ↔ IsSup b := by
  constructor
  · rintro ⟨h1, h2⟩
    have : b.size = 128 := by rw [← h2]; exact sup_size _
    rw [readX_in this] at h1 h2
    exact ⟨h1, h2⟩
  · intro h
    have := isSup_size h
    rw [readX_in this]; exact h
theorem supText_ne {a b : ByteArray} (h : a ≠ b) : (a.toList == b.toList) = false := by
  rw [beq_eq_false_iff_ne]
  intro e
  apply h
  rw [ByteArray.toList_eq, ByteArray.toList_eq] at e
  cases a; cases b; simp at e; rw [e]

/-! ### whole superblocks, stored -/
def noS : Sup := ⟨0, 0, 0, 0, 0, 0, 0, 0, 0, 0⟩
theorem sup_info : (Try.prog.info? 23).map (·.size) = some 10 := by kernel_rfl
theorem wpList_store_sup {ops : Array Oper} {rest : List Oper} {o : Oper} {a : Act} {w : World} {Q : Exit → Act → World → Prop} (hgd : o.guard = none) (x y : Operand) (ho : o.op = .store 23 x y)
    {g : Nat} {s s' : Sup} (hx : a.eval x = .pointer (some ⟨g, 0, none⟩)) (hy : a.eval y = supV s) (hg : SupAt g s' w)
    (h : ∀ w2, SupAt g s w2 → Below g w w2 → w2.heap.size = w.heap.size → (∀ k, k ≠ g → w2.heap[k]? = w.heap[k]?) → wpList Try.prog ops Q rest (a.put o.dst undef) w2) : wpList Try.prog ops Q (o :: rest) a w :=
  wpList_store_row hgd _ x y ho g (supC s) hx hy _ _ hg sup_info rfl (by simp [Value.oneCell'])
    (h _ (setRow_heap w g _ _ _ _ hg) ⟨rfl, rfl, rfl, by simp, fun k hk => setRow_other w g k _ (by omega)⟩ (by simp) (fun k hk => setRow_other w g k _ hk))

/-! ### read -/
def fillX (b : ByteArray) (k : Nat) : Nat → Value := fun j => .int .i64 (if j < k then numX b j else 0)
theorem fillX_set (b : ByteArray) {g k : Nat} {w : World} (h : CellsAt g 10 (fillX b k) w) (hk : k < 10) : CellsAt g 10 (fillX b (k + 1)) (w.setCell ⟨g, k, none⟩ (.int .i64 (numX b k))) :=
  (h.set hk _).congr fun j hj => by
    unfold fillX
    by_cases e : j = k
    · subst e; rw [upd_same, if_pos (by omega)]
    · rw [upd_other _ e]
      by_cases h2 : j < k
      · rw [if_pos h2, if_pos (by omega)]
      · rw [if_neg h2, if_neg (by omega)]
theorem fillX_cell {b : ByteArray} {g : Nat} {w : World} (h : CellsAt g 10 (fillX b 10) w) (j : Nat) (hj : j < 10) : w.cell? ⟨g, j, none⟩ = some (.int .i64 (numX b j)) := by
  have := (h.2 j hj).1
  unfold fillX at this
  rwa [if_pos hj] at this
theorem fillX_zero (b : ByteArray) (w : World) : CellsAt w.heap.size 10 (fillX b 0) (w.alloc (.cells (supC noS) 23)) := CellsAt.alloc_new _ _ _ _ _ fun j hj => by
  unfold fillX
  rw [if_neg (by omega)]
  match j, hj with
  | 0, _ => rfl | 1, _ => rfl | 2, _ => rfl | 3, _ => rfl | 4, _ => rfl | 5, _ => rfl | 6, _ => rfl | 7, _ => rfl | 8, _ => rfl | 9, _ => rfl
set_option maxRecDepth 100000 in
set_option maxHeartbeats 4000000 in
theorem uread_any (b : ByteArray) (hs : b.size ≤ maxLen) (w : World) :
    Calls Try.prog 29 #[.string b] w fun e w' => e = .returned (supV (readX b)) ∧ Below w.heap.size w w' := by
  have mixed : Try.prog.follows .mixedOrders = true := by kernel_rfl
  have GI : Hid (∀ j : Nat, j < 10 → ∀ w, Calls Try.prog 43 #[.string b, .int .i64 (8 + 4 * (j : Int)), .int .i64 4] w fun e w' => e = .returned (.tuple #[.int .i64 (numX b j), .bool (intOk b (8 + 4 * (j : Int)) 4)]) ∧ w = w') := Lib.hid fun j hj w => getInt_any b hs _ 4 w
  have NA := Lib.hid fun (j : Nat) (hj : j < 10) w => numberAt_any j (by omega) w
  obtain ⟨w1, hw1⟩ : ∃ w1, w.alloc (.cells #[.int .i64 0, .int .i64 0, .int .i64 0, .int .i64 0, .int .i64 0, .int .i64 0, .int .i64 0, .int .i64 0, .int .i64 0, .int .i64 0] 23) = w1 := ⟨_, rfl⟩
  have hR1 : SupAt w.heap.size noS w1 := by rw [← hw1]; exact Blk.new _ _ _
  have hB1 : Below w.heap.size w w1 := by rw [← hw1]; exact balloc1 _ _
  have hz1 : w1.heap.size = w.heap.size + 1 := by rw [← hw1]; exact size_alloc _ _
  obtain ⟨w2, hw2⟩ : ∃ w2, w1.alloc (.cells #[.int .i64 0, .int .i64 0, .int .i64 0, .int .i64 0, .int .i64 0, .int .i64 0, .int .i64 0, .int .i64 0, .int .i64 0, .int .i64 0] 23) = w2 := ⟨_, rfl⟩
  have hR2 : SupAt w.heap.size noS w2 := by rw [← hw2]; exact hR1.kept1 (balloc1 _ _)
  have hF2 : CellsAt w1.heap.size 10 (fillX b 0) w2 := by rw [← hw2]; exact fillX_zero b w1
  have hB2 : Below w.heap.size w w2 := by rw [← hw2]; exact balloc hB1 _
  have NU := numbers_any w1.heap.size w2 hF2.1
  have hc := fun wr (h : CellsAt w1.heap.size 10 (fillX b 10) wr) j hj => fillX_cell h j hj
  rw [hz1] at hF2 NU hc
  have HC := Lib.hid hc
  have NU := Lib.hid NU
  have HST := Lib.hid (fun k (hk : k < 10) wr (h : CellsAt (w.heap.size + 1) 10 (fillX b k) wr) => fillX_set b h hk)
  have HFC := Lib.hid (fun (k : Nat) (hk : k < 10) wr (h : CellsAt (w.heap.size + 1) 10 (fillX b k) wr) => h.2 k hk)
  unfold readX
  generalize numX b = X at *
  generalize fillX b = FX at *
  clear hR1 hB1 hc
  go_enter Try.func29, Try.ntmps29
  go_wp2_with fail
  refine NU.out.mono ?_; rintro e w3 ⟨B, rfl, hBB, hP3, b3⟩
  have hR3 := hR2.kept1 b3
  have hF3 := hF2.kept1 b3
  have hB3 := bnext hB2 b3
  have hz2 : w2.heap.size = w.heap.size + 2 := by rw [← hw2, size_alloc, hz1]
  have hBg : w.heap.size + 2 ≤ B := by omega
  clear hw1 hw2 hR2 hF2 hB2 NU b3 hBB hz1 hz2
  go_wp2
  go_loopw [8] (fun q wr => ∃ k : Nat, q = .int .i64 k ∧ k ≤ 10 ∧ CellsAt (w.heap.size + 1) 10 (FX k) wr ∧ SupAt w.heap.size noS wr ∧ Blk B (ptrC (w.heap.size + 1)) 59 wr ∧ Below w.heap.size w wr) (fun q _ => 10 - (intOf q).toNat)
  case atStart => exact ⟨0, rfl, by omega, hF3, hR3, hP3, hB3⟩
  case round =>
    clear hF3 hR3 hP3 hB3
    obtain ⟨k, rfl, hk, hF, hR, hP, hB⟩ := hrel
    by_cases hlt : k < 10
    · have q1 := ptr_at hP k hlt
      obtain ⟨q2, q3⟩ := HFC.out k hlt wr hF
      have HF2 := Lib.hid (HST.out k hlt wr hF)
      have HR2 : Hid (SupAt w.heap.size noS (wr.setCell ⟨w.heap.size + 1, k, none⟩ (.int .i64 (X k)))) := Lib.hid (hR.other (by show w.heap.size + 1 ≠ _; omega) _)
      have HP2 : Hid (Blk B (ptrC (w.heap.size + 1)) 59 (wr.setCell ⟨w.heap.size + 1, k, none⟩ (.int .i64 (X k)))) := Lib.hid (hP.other (by show w.heap.size + 1 ≠ _; omega) _)
      have HB2 : Hid (Below w.heap.size w (wr.setCell ⟨w.heap.size + 1, k, none⟩ (.int .i64 (X k)))) := Lib.hid (hB.setCell (by show _ ≤ _ + 1; omega) _)
      clear hF hR hP hB
      go_wp2_with fail
      refine (NA.out k hlt _).mono ?_; rintro e w4 ⟨rfl, rfl⟩
      go_wp2_with fail
      refine (GI.out k hlt _).mono ?_; rintro e w4 ⟨rfl, rfl⟩
      go_wp2
      exact ⟨⟨k + 1, by go_num, by omega, HF2.out, HR2.out, HP2.out, HB2.out⟩, by simp [intOf]; omega⟩
    · obtain rfl : k = 10 := by omega
      have c := HC.out wr hF
      have c0 := c 0 (by omega); have c1 := c 1 (by omega); have c2 := c 2 (by omega); have c3 := c 3 (by omega); have c4 := c 4 (by omega)
      have c5 := c 5 (by omega); have c6 := c 6 (by omega); have c7 := c 7 (by omega); have c8 := c 8 (by omega); have c9 := c 9 (by omega)
      have HR := Lib.hid hR
      clear c hF hP hR
      go_wp2_with (refine wpList_store_sup (s := ⟨X 0, X 1, X 2, X 3, X 4, X 5, X 6, X 7, X 8, X 9⟩) rfl _ _ rfl rfl rfl HR.out ?_)
      intro w5 h5 hl5 hs5 _
      obtain ⟨y0, y1, y2, y3, y4, y5, y6, y7, y8, y9⟩ := SupAt.cells h5
      have hbe := hB.trans hl5
      clear hl5 hs5 HR hB c0 c1 c2 c3 c4 c5 c6 c7 c8 c9
      go_wp2
      refine bodyPost_ret (v := supV ⟨X 0, X 1, X 2, X 3, X 4, X 5, X 6, X 7, X 8, X 9⟩) ?_ rfl ⟨rfl, hbe⟩
      rw [results_one_cell rfl]
      go_simp
end Go.Proofs.Ytonfloehobcfbaa
