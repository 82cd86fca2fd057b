/- Encode, the document's. -/
import Derived.Test.YtfepjjjoikcljaaIRCheck
import Derived.Test.YtfepjjjoikcljaaIEnc
import Derived.Test.YtfepjjjoikcljaaKZero
namespace Go.Proofs.Ytfepjjjoikcljaa
set_option linter.unusedVariables false
open Go.RowKit

theorem rtput_one (z n : Nat) (hz : z = 1 ∨ z = 2 ∨ z = 4 ∨ z = 8) (hn : n < 256 ^ z) (h63 : n ≤ 9223372036854775807) (w : World) :
    Calls Try.prog 36 #[.string (bs (zeroL z)), .int .i64 0, .int .i64 (z : Int), .int .i64 (n : Int)] w fun e w' => e = .returned (.tuple #[.string (bs (leB z n)), .bool (putIntOk z 0 z n)]) ∧ Below w.heap.size w w' := by
  have := rputInt_any (bs (zeroL z)) (by rw [bs_size, zeroL_length]; unfold maxLen; omega) 0 z n (by omega) w
  have e : putIntV (bs (zeroL z)) 0 z n = bs (leB z n) := by
    unfold putIntV
    rw [if_pos (by omega)]
    exact put_zero z n hz hn
  rw [e, bs_size, zeroL_length] at this
  exact this
set_option maxRecDepth 100000 in
set_option maxHeartbeats 4000000 in
theorem rtput_any (s : ByteArray) (hs : s.size ≤ 1000) (z n : Nat) (hz : z = 1 ∨ z = 2 ∨ z = 4 ∨ z = 8) (hn : n < 256 ^ z) (h63 : n ≤ 9223372036854775807) (w : World) :
    Calls Try.prog 20 #[.string s, .int .i64 (z : Int), .int .i64 (n : Int)] w fun e w' => e = .returned (.string (s ++ bs (leB z n))) ∧ Below w.heap.size w w' := by
  have PO := Lib.hid fun w => rtput_one z n hz hn h63 w
  have zz : (bs (leB z n)).size = z := by rw [bs_size, leB_length]
  have hz8 : z ≤ 8 := by omega
  have hm : (Instr.makeSlice 39 (.int .i64 (z : Int)) (.int .i64 (z : Int))).run Try.prog w = .ok (.slice (some ⟨w.heap.size, 0, none⟩) z z) (w.alloc (.cells (madeCells #[.int .u8 0] z) 5)) := kz_made z (by omega) w
  have hbk := kz_back w z
  have hB2 := balloc1 w (.cells (madeCells #[.int .u8 0] z) 5)
  generalize (w.alloc (.cells (madeCells #[.int .u8 0] z) 5)) = w2 at *
  generalize bs (leB z n) = T at *
  generalize bs (zeroL z) = Z at *
  generalize putIntOk z 0 z n = ok at *
  clear hn hz h63
  go_enter Try.func20, Try.ntmps20
  go_wp2_with fail
  refine (PO.out _).mono ?_; rintro e w3 ⟨rfl, b3⟩
  have hB3 := bnext hB2 b3
  clear hm hbk
  go_wp2
  go_ret
  exact ⟨rfl, hB3⟩
/-- the same, of an int -/
theorem rtput_int (s : ByteArray) (hs : s.size ≤ 1000) (z : Nat) (n : Int) (hz : z = 1 ∨ z = 2 ∨ z = 4 ∨ z = 8) (h0 : 0 ≤ n) (hn : n.toNat < 256 ^ z) (h63 : n ≤ 262144) (w : World) :
    Calls Try.prog 20 #[.string s, .int .i64 (z : Int), .int .i64 n] w fun e w' => e = .returned (.string (s ++ bs (leB z n.toNat))) ∧ Below w.heap.size w w' := by
  have := rtput_any s hs z n.toNat hz hn (by omega) w
  rw [show ((n.toNat : Nat) : Int) = n by omega] at this; exact this
theorem rtput4 (s : ByteArray) (hs : s.size ≤ 1000) (n : Int) (h0 : 0 ≤ n) (h63 : n ≤ 262144) (T : ByteArray) (hT : s ++ bs (leB 4 n.toNat) = T) (w : World) :
    Calls Try.prog 20 #[.string s, .int .i64 4, .int .i64 n] w fun e w' => e = .returned (.string T) ∧ Below w.heap.size w w' := by
  rw [← hT]; exact rtput_int s hs 4 n (by omega) h0 (by omega) h63 w
theorem rtput1 (s : ByteArray) (hs : s.size ≤ 1000) (n : Int) (h0 : 0 ≤ n) (h63 : n ≤ 255) (T : ByteArray) (hT : s ++ bs (leB 1 n.toNat) = T) (w : World) :
    Calls Try.prog 20 #[.string s, .int .i64 1, .int .i64 n] w fun e w' => e = .returned (.string T) ∧ Below w.heap.size w w' := by
  rw [← hT]; exact rtput_int s hs 1 n (by omega) h0 (by omega) (by omega) w
theorem rtput2 (s : ByteArray) (hs : s.size ≤ 1000) (n : Int) (h0 : 0 ≤ n) (h63 : n ≤ 65535) (T : ByteArray) (hT : s ++ bs (leB 2 n.toNat) = T) (w : World) :
    Calls Try.prog 20 #[.string s, .int .i64 2, .int .i64 n] w fun e w' => e = .returned (.string T) ∧ Below w.heap.size w w' := by
  rw [← hT]; exact rtput_int s hs 2 n (by omega) h0 (by omega) (by omega) w
theorem rtput8 (s : ByteArray) (hs : s.size ≤ 1000) (n : Int) (h0 : 0 ≤ n) (h63 : n ≤ 262144) (T : ByteArray) (hT : s ++ bs (leB 8 n.toNat) = T) (w : World) :
    Calls Try.prog 20 #[.string s, .int .i64 8, .int .i64 n] w fun e w' => e = .returned (.string T) ∧ Below w.heap.size w w' := by
  rw [← hT]; exact rtput_int s hs 8 n (by omega) h0 (by omega) h63 w
/-- the text behind the first k entries -/
def entT (s : ByteArray) (l : List Ent) (k : Nat) : ByteArray := s ++ bs (entsB (l.take k))
theorem entT_zero (s : ByteArray) (l : List Ent) : entT s l 0 = s := by
  unfold entT
  conv => lhs; rw [← bs_of s]
  rw [bs_append, List.take_zero]
  show bs (s.data.toList ++ []) = s
  rw [List.append_nil, bs_of]
theorem entT_succ (s : ByteArray) (l : List Ent) {k : Nat} (hk : k < l.length) : entT s l k ++ bs (leB 4 (eat l k).log.toNat) ++ bs (leB 4 (eat l k).phys.toNat) ++ bs (leB 4 (eat l k).len.toNat) = entT s l (k + 1) := by
  unfold entT
  rw [List.take_succ_eq_append_getElem hk, entsB_snoc, eat_eq hk, ← bs_append]
  unfold entB
  rw [← bs_append, ← bs_append]
  simp only [ByteArray.append_assoc]
theorem entT_size (s : ByteArray) (l : List Ent) (k : Nat) (hk : k ≤ l.length) : (entT s l k).size = s.size + 12 * k := by
  unfold entT; rw [ByteArray.size_append, bs_size, entsB_length, List.length_take, Nat.min_eq_left hk]
set_option maxRecDepth 100000 in
set_option maxHeartbeats 4000000 in
theorem rentries_any (s : ByteArray) (hs : s.size ≤ 100) (l : List Ent) (h4 : l.length ≤ 4) (hl : ∀ i, i < l.length → (0 ≤ (eat l i).log ∧ (eat l i).log ≤ 4096) ∧ (0 ≤ (eat l i).phys ∧ (eat l i).phys ≤ 4096) ∧ (0 ≤ (eat l i).len ∧ (eat l i).len ≤ 4096)) (v : Value) (w : World) (hv : EntsIn v l w) :
    Calls Try.prog 21 #[.string s, v] w fun e w' => e = .returned (.string (s ++ bs (entsB l))) ∧ Below w.heap.size w w' := by
  have mixed : Try.prog.follows .mixedOrders = true := by kernel_rfl
  obtain ⟨ad, cap, rfl, c1, c2, c3, -⟩ := entsIn_cells hv
  have H3 := Lib.hid c3
  have HS := Lib.hid fun k (hk : k < l.length) => entT_succ s l hk
  have HZ := Lib.hid fun k (hk : k ≤ l.length) => entT_size s l k hk
  have H0 := Lib.hid (entT_zero s l)
  have HL := Lib.hid hl
  have HE : Hid (s ++ bs (entsB l) = entT s l l.length) := Lib.hid (by unfold entT; rw [List.take_length])
  rw [HE.out]
  generalize entT s l = PT at *
  clear c3 hv hl HE
  rw [← H0.out]
  go_enter Try.func21, Try.ntmps21
  go_wp2
  go_loopw [0, 5] (fun bv q wr => ∃ k : Nat, q = .int .i64 k ∧ bv = .string (PT k) ∧ k ≤ l.length ∧ Below w.heap.size w wr) (fun _ q _ => l.length - (intOf q).toNat)
  case atStart => exact ⟨0, rfl, rfl, by omega, Below.refl _ _⟩
  case round =>
    obtain ⟨k, rfl, rfl, hk, hb⟩ := hrel
    by_cases hlt : k < l.length
    · obtain ⟨g, o, rfl, hg, hc⟩ := H3.out (by omega)
      have hgr : g < wr.heap.size := Nat.lt_of_lt_of_le hg hb.size
      have k0 := fun p : BelowP wr => (hc p.to (hb.trans (p.h.mono hb.size)) k hlt).1
      have k1 := fun p : BelowP wr => (hc p.to (hb.trans (p.h.mono hb.size)) k hlt).2.1
      have k2 := fun p : BelowP wr => (hc p.to (hb.trans (p.h.mono hb.size)) k hlt).2.2
      have hz := HZ.out k hk
      obtain ⟨hl1, hl2, hl3⟩ := HL.out k hlt
      have hsu := HS.out k hlt
      obtain ⟨T1, hT1⟩ : ∃ T1, PT k ++ bs (leB 4 (eat l k).log.toNat) = T1 := ⟨_, rfl⟩
      rw [hT1] at hsu
      have z1 : T1.size ≤ 160 := by rw [← hT1, ByteArray.size_append, bs_size, leB_length]; omega
      obtain ⟨T2, hT2⟩ : ∃ T2, T1 ++ bs (leB 4 (eat l k).phys.toNat) = T2 := ⟨_, rfl⟩
      rw [hT2] at hsu
      have z2 : T2.size ≤ 170 := by rw [← hT2, ByteArray.size_append, bs_size, leB_length]; omega
      obtain ⟨X, Y, e0, e3, y0, y1, y2, PP⟩ : ∃ (X : Nat → ByteArray) (Y : Nat → Int), PT k = X 0 ∧ PT (k + 1) = X 3 ∧ (eat l k).log = Y 0 ∧ (eat l k).phys = Y 1 ∧ (eat l k).len = Y 2 ∧
          Hid (∀ j, j < 3 → ∀ w, Calls Try.prog 20 #[.string (X j), .int .i64 4, .int .i64 (Y j)] w fun e w' => e = .returned (.string (X (j + 1))) ∧ Below w.heap.size w w') :=
        ⟨fun j => match j with | 0 => PT k | 1 => T1 | 2 => T2 | _ => PT (k + 1), fun j => match j with | 0 => (eat l k).log | 1 => (eat l k).phys | _ => (eat l k).len, rfl, rfl, rfl, rfl, rfl, Lib.hid fun j hj w => by
          match j, hj with
          | 0, _ => exact rtput4 (PT k) (by omega) (eat l k).log hl1.1 (by omega) T1 hT1 w
          | 1, _ => exact rtput4 T1 (by omega) (eat l k).phys hl2.1 (by omega) T2 hT2 w
          | 2, _ => exact rtput4 T2 (by omega) (eat l k).len hl3.1 (by omega) _ hsu w⟩
      rw [y0] at k0
      rw [y1] at k1
      rw [y2] at k2
      rw [e0]
      clear hT1 hT2 z1 z2 y0 y1 y2 e0
      clear hl1 hl2 hl3 hsu hz hc
      go_wp2
      refine wp_region_quiet_below mixed (by kernel_rfl) ?_
      repeat (go_big_quiet_step (first | (go_at_call 20; refine calls_below (PP.out _ (by decide) _))))
      refine wpQuiet_nil ?_
      intro w0q hw'
      obtain ⟨⟨wq, bq⟩, hw''⟩ := hw'
      have hw2 : wq = w0q := hw''.symm
      clear hw''
      subst hw2
      have hb2 := bnext hb bq
      clear k0 k1 k2
      go_wp2
      exact ⟨⟨k + 1, by go_num, congrArg Value.string e3.symm, by omega, hb2⟩, by simp [intOf]; omega⟩
    · obtain rfl : k = l.length := by omega
      go_wp2
      go_ret
      exact ⟨rfl, hb⟩
end Go.Proofs.Ytfepjjjoikcljaa
