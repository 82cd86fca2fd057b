import Derived.Test.YtknefoemgifbfaaGreatPd23
import Derived.Test.YtknefoemgifbfaaGreatPd03
set_option linter.unusedVariables false
set_option linter.unusedSimpArgs false
set_option linter.constructorNameAsVariable false
set_option maxRecDepth 100000
set_option maxHeartbeats 16000000
namespace Go.Proofs.YtknefoemgifbfaaGreat
open Go.RowKit
theorem fput_zero (k n : Nat) (hk : k = 1 ∨ k = 2 ∨ k = 4 ∨ k = 8) (hn : n < 256 ^ k) : putV (bs (zerosF k)) ((0 : Nat) : Int) (k : Int) n = bs (leB k n) := by
 have hs : (bs (zerosF k)).size = k := by rw [bs_size, zerosF_len]
 rw [putV_yes (by unfold putOk fieldOk; rw [hs]; simp; exact ⟨by omega, hn⟩)];unfold putS putL;rw [bs_list];unfold bs;congr 2;rw [List.drop_eq_nil_of_le (by rw [zerosF_len]; omega)]; simp
theorem frput_one (z n : Nat) (hz : z = 1 ∨ z = 2 ∨ z = 4 ∨ z = 8) (hn : n < 256 ^ z) (h63 : n ≤ 9223372036854775807) (w : World) :
 Calls Tryz.prog 111 #[.string (bs (zerosF z)), .int .i64 0, .int .i64 (z : Int), .int .i64 (n : Int)] w fun e w' => e = .returned (.tuple #[.string (bs (leB z n)), .bool (putIntOk z 0 z n)]) ∧ Below w.heap.size w w' := by
 have := rputInt_any (bs (zerosF z)) (by rw [bs_size, zerosF_len]; unfold maxLen; omega) 0 z n (by omega) w
 have e : putIntV (bs (zerosF z)) 0 z n = bs (leB z n) := by
  unfold putIntV;rw [if_pos (by omega)];exact fput_zero z n hz hn
 rw [e, bs_size, zerosF_len] at this;exact this
theorem frput_any (s : ByteArray) (hs : s.size ≤ 1000) (z n : Nat) (hz : z = 1 ∨ z = 2 ∨ z = 4 ∨ z = 8) (hn : n < 256 ^ z) (h63 : n ≤ 9223372036854775807) (w : World) :
 Calls Tryz.prog 82 #[.string s, .int .i64 (z : Int), .int .i64 (n : Int)] w fun e w' => e = .returned (.string (s ++ bs (leB z n))) ∧ Below w.heap.size w w' := by
 have PO := Lib.hid fun w => frput_one z n hz hn h63 w
 have zz : (bs (leB z n)).size = z := by rw [bs_size, leB_length]
 have hz8 : z ≤ 8 := by omega
 have hm : (Instr.makeSlice 97 (.int .i64 (z : Int)) (.int .i64 (z : Int))).run Tryz.prog w = .ok (.slice (some ⟨w.heap.size, 0, none⟩) z z) (w.alloc (.cells (madeCells #[.int .u8 0] z) 5)) := fz_made z (by omega) w;have hbk := fz_back w z;have hB2 := balloc1 w (.cells (madeCells #[.int .u8 0] z) 5);generalize (w.alloc (.cells (madeCells #[.int .u8 0] z) 5)) = w2 at *;generalize bs (leB z n) = T at *;generalize bs (zerosF z) = Z at *;generalize putIntOk z 0 z n = ok at *;clear hn hz h63
 go_enter Tryz.func82, Tryz.ntmps82
 go_wp2_with fail
 refine (PO.out _).mono ?_; rintro e w3 ⟨rfl, b3⟩;have hB3 := bnext hB2 b3;clear hm hbk;go_wp2;go_ret;exact ⟨rfl, hB3⟩
theorem frput_int (s : ByteArray) (hs : s.size ≤ 1000) (z : Nat) (n : Int) (hz : z = 1 ∨ z = 2 ∨ z = 4 ∨ z = 8) (h0 : 0 ≤ n) (hn : n.toNat < 256 ^ z) (h63 : n ≤ 262144) (w : World) :
 Calls Tryz.prog 82 #[.string s, .int .i64 (z : Int), .int .i64 n] w fun e w' => e = .returned (.string (s ++ bs (leB z n.toNat))) ∧ Below w.heap.size w w' := by
 have := frput_any s hs z n.toNat hz hn (by omega) w;rw [show ((n.toNat : Nat) : Int) = n by omega] at this; exact this
theorem frput4 (s : ByteArray) (hs : s.size ≤ 1000) (n : Int) (h0 : 0 ≤ n) (h63 : n ≤ 262144) (T : ByteArray) (hT : s ++ bs (leB 4 n.toNat) = T) (w : World) :
 Calls Tryz.prog 82 #[.string s, .int .i64 4, .int .i64 n] w fun e w' => e = .returned (.string T) ∧ Below w.heap.size w w' := by
 rw [← hT]; exact frput_int s hs 4 n (by omega) h0 (by omega) h63 w
def entFT (s : ByteArray) (l : List Ent) (k : Nat) : ByteArray := s ++ bs (entsB (l.take k))
theorem entFT_zero (s : ByteArray) (l : List Ent) : entFT s l 0 = s := by
 unfold entFT
 conv => lhs; rw [← bs_of s]
 rw [bs_append, List.take_zero]
 show bs (s.data.toList ++ []) = s
 rw [List.append_nil, bs_of]
theorem entFT_succ (s : ByteArray) (l : List Ent) {k : Nat} (hk : k < l.length) : entFT s l k ++ bs (leB 4 (eat l k).log.toNat) ++ bs (leB 4 (eat l k).phys.toNat) ++ bs (leB 4 (eat l k).len.toNat) = entFT s l (k + 1) := by
 unfold entFT;rw [List.take_succ_eq_append_getElem hk, entsB_snoc, eat_eq hk, ← bs_append];unfold entB;rw [← bs_append, ← bs_append];simp only [ByteArray.append_assoc]
theorem entFT_size (s : ByteArray) (l : List Ent) (k : Nat) (hk : k ≤ l.length) : (entFT s l k).size = s.size + 12 * k := by
 unfold entFT; rw [ByteArray.size_append, bs_size, entsB_length, List.length_take, Nat.min_eq_left hk]
theorem frentries_any (s : ByteArray) (hs : s.size ≤ 100) (l : List Ent) (h4 : l.length ≤ 10) (hl : ∀ i, i < l.length → (0 ≤ (eat l i).log ∧ (eat l i).log ≤ 4096) ∧ (0 ≤ (eat l i).phys ∧ (eat l i).phys ≤ 4096) ∧ (0 ≤ (eat l i).len ∧ (eat l i).len ≤ 4096)) (v : Value) (w : World) (hv : EntsIn v l w) :
 Calls Tryz.prog 40 #[.string s, v] w fun e w' => e = .returned (.string (s ++ bs (entsB l))) ∧ Below w.heap.size w w' := by
 have mixed : Tryz.prog.follows .mixedOrders = true := by kernel_rfl
 obtain ⟨ad, cap, rfl, c1, c2, c3, -⟩ := entsIn_cells hv;have H3 := Lib.hid c3;have HS := Lib.hid fun k (hk : k < l.length) => entFT_succ s l hk;have HZ := Lib.hid fun k (hk : k ≤ l.length) => entFT_size s l k hk;have H0 := Lib.hid (entFT_zero s l);have HL := Lib.hid hl;have HE : Hid (s ++ bs (entsB l) = entFT s l l.length) := Lib.hid (by unfold entFT; rw [List.take_length]);rw [HE.out];generalize entFT s l = PT at *;clear c3 hv hl HE;rw [← H0.out]
 go_enter Tryz.func40, Tryz.ntmps40
 go_wp2
 go_loopw [0, 5] (fun bv q wr => ∃ k : Nat, q = .int .i64 k ∧ bv = .string (PT k) ∧ k ≤ l.length ∧ Below w.heap.size w wr) (fun _ q _ => l.length - (intOf q).toNat)
 case atStart => exact ⟨0, rfl, rfl, by omega, Below.refl _ _⟩
 case round =>
  obtain ⟨k, rfl, rfl, hk, hb⟩ := hrel;by_cases hlt : k < l.length
  ·obtain ⟨g, o, rfl, hg, hc⟩ := H3.out (by omega)
   have hgr : g < wr.heap.size := Nat.lt_of_lt_of_le hg hb.size;have k0 := fun p : BelowP wr => (hc p.to (hb.trans (p.h.mono hb.size)) k hlt).1;have k1 := fun p : BelowP wr => (hc p.to (hb.trans (p.h.mono hb.size)) k hlt).2.1;have k2 := fun p : BelowP wr => (hc p.to (hb.trans (p.h.mono hb.size)) k hlt).2.2;have hz := HZ.out k hk;obtain ⟨hl1, hl2, hl3⟩ := HL.out k hlt;have hsu := HS.out k hlt;obtain ⟨T1, hT1⟩ : ∃ T1, PT k ++ bs (leB 4 (eat l k).log.toNat) = T1 := ⟨_, rfl⟩;rw [hT1] at hsu
   have z1 : T1.size ≤ 300 := by rw [← hT1, ByteArray.size_append, bs_size, leB_length]; omega
   obtain ⟨T2, hT2⟩ : ∃ T2, T1 ++ bs (leB 4 (eat l k).phys.toNat) = T2 := ⟨_, rfl⟩;rw [hT2] at hsu
   have z2 : T2.size ≤ 310 := by rw [← hT2, ByteArray.size_append, bs_size, leB_length]; omega
   obtain ⟨X, Y, e0, e3, y0, y1, y2, PP⟩ : ∃ (X : Nat → ByteArray) (Y : Nat → Int), PT k = X 0 ∧ PT (k + 1) = X 3 ∧ (eat l k).log = Y 0 ∧ (eat l k).phys = Y 1 ∧ (eat l k).len = Y 2 ∧
    Hid (∀ j, j < 3 → ∀ w, Calls Tryz.prog 82 #[.string (X j), .int .i64 4, .int .i64 (Y j)] w fun e w' => e = .returned (.string (X (j + 1))) ∧ Below w.heap.size w w') :=
    ⟨fun j => match j with | 0 => PT k | 1 => T1 | 2 => T2 | _ => PT (k + 1), fun j => match j with | 0 => (eat l k).log | 1 => (eat l k).phys | _ => (eat l k).len, rfl, rfl, rfl, rfl, rfl, Lib.hid fun j hj w => by
     match j, hj with
     | 0, _ => exact frput4 (PT k) (by omega) (eat l k).log hl1.1 (by omega) T1 hT1 w
     | 1, _ => exact frput4 T1 (by omega) (eat l k).phys hl2.1 (by omega) T2 hT2 w
     | 2, _ => exact frput4 T2 (by omega) (eat l k).len hl3.1 (by omega) _ hsu w⟩
   rw [y0] at k0;rw [y1] at k1;rw [y2] at k2;rw [e0];clear hT1 hT2 z1 z2 y0 y1 y2 e0;clear hl1 hl2 hl3 hsu hz hc;go_wp2;refine wp_region_quiet_below mixed (by kernel_rfl) ?_
   repeat (go_big_quiet_step (first | (go_at_call 82; refine calls_below (PP.out _ (by decide) _))))
   refine wpQuiet_nil ?_;intro w0q hw';obtain ⟨⟨wq, bq⟩, hw''⟩ := hw';have hw2 : wq = w0q := hw''.symm;clear hw'';subst hw2;have hb2 := bnext hb bq;clear k0 k1 k2;go_wp2;exact ⟨⟨k + 1, by go_num, congrArg Value.string e3.symm, by omega, hb2⟩, by simp [intOf]; omega⟩
  ·obtain rfl : k = l.length := by omega
   go_wp2;go_ret;exact ⟨rfl, hb⟩
theorem ftext3 (w : World) (a b c : UInt8) :
 (convert 97 9 (.slice (some ⟨w.heap.size, 0, none⟩) 3 3)).run Tryz.prog (w.alloc (.cells #[.int .u8 (a.toNat : Int), .int .u8 (b.toNat : Int), .int .u8 (c.toNat : Int)] 5)) = .ok (.string (bs [a, b, c])) (w.alloc (.cells #[.int .u8 (a.toNat : Int), .int .u8 (b.toNat : Int), .int .u8 (c.toNat : Int)] 5)) := by
 have h := run_convert_bytes_back (P := Tryz.prog) (w.alloc (.cells #[.int .u8 (a.toNat : Int), .int .u8 (b.toNat : Int), .int .u8 (c.toNat : Int)] 5)) 97 9 5 ⟨w.heap.size, 0, none⟩ 3 [a, b, c] Tryz.underlying97 Tryz.underlying5 Tryz.underlying9 fun j hj => by
  have hj : j < 3 := hj;rw [add_at, Nat.zero_add, (Blk.new #[.int .u8 (a.toNat : Int), .int .u8 (b.toNat : Int), .int .u8 (c.toNat : Int)] 5 w).cell j]
  have : j = 0 ∨ j = 1 ∨ j = 2 := by omega
  rcases this with rfl | rfl | rfl <;> rfl
 exact h
theorem rfenc_any (l : List Ent) (hf : fitE l) (leaf : Bool) (v : Value) (w : World) (hv : EntsIn v l w) :
 Calls Tryz.prog 11 #[v, .bool leaf] w fun e w' => e = .returned (.tuple #[.string (encT l leaf), .int .i64 (encE l leaf)]) ∧ Below w.heap.size w w' := by
 have mixed : Tryz.prog.follows .mixedOrders = true := by kernel_rfl
 have RR := Lib.hid (rrow_any leaf l hf v w hv);obtain ⟨ad, cap, rfl, c1, c2, c3, c4⟩ := entsIn_cells hv;have HV := Lib.hid hv;by_cases h1 : l.length < 1
 ·have d1 : decide ((l.length : Int) < 1) = true := decide_eq_true (by omega)
  have HN : Hid (encT l leaf = ⟨#[]⟩ ∧ encE l leaf = 2) := Lib.hid (by have hn : ¬ NodeOk l leaf := fun h => by have := h.1; omega
                                                                       unfold encT encE; rw [if_neg hn, if_neg hn]; exact ⟨rfl, rfl⟩)
  rw [HN.out.1, HN.out.2];clear c3 c4 hv h1
  go_enter Tryz.func11, Tryz.ntmps11
  go_wp2
  go_ret2
  exact ⟨rfl, Below.refl _ _⟩
 have d1 : decide ((l.length : Int) < 1) = false := decide_eq_false (by omega);by_cases h10 : 10 < l.length
 ·have d2 : decide ((10 : Int) < (l.length : Int)) = true := decide_eq_true (by omega)
  have HN : Hid (encT l leaf = ⟨#[]⟩ ∧ encE l leaf = 2) := Lib.hid (by have hn : ¬ NodeOk l leaf := fun h => by have := h.2.1; omega
                                                                       unfold encT encE; rw [if_neg hn, if_neg hn]; exact ⟨rfl, rfl⟩)
  rw [HN.out.1, HN.out.2];clear c3 c4 hv h1
  go_enter Tryz.func11, Tryz.ntmps11
  go_wp2
  go_ret2
  exact ⟨rfl, Below.refl _ _⟩
 have d2 : decide ((10 : Int) < (l.length : Int)) = false := decide_eq_false (by omega);by_cases hr : RowOk leaf l
 ·have hn : NodeOk l leaf := ⟨by omega, by omega, hr⟩
  rw [decide_eq_true hr] at RR
  have hET : encT l leaf = nodeB l leaf := by unfold encT; rw [if_pos hn]
  have hEE : encE l leaf = 0 := by unfold encE; rw [if_pos hn]
  rw [hET, hEE];obtain ⟨n8, hn8⟩ : ∃ n8 : UInt8, UInt8.ofNat l.length = n8 := ⟨_, rfl⟩
  have hn8n : (n8.toNat : Int) = (l.length : Int) % 256 := by rw [← hn8]; simp
  have CV := fun w1 => ftext3 w1 70 (leafB leaf) n8;rw [show ((70 : UInt8).toNat : Int) = 70 from rfl, hn8n] at CV;have hT3 : (bs [70, leafB leaf, n8]).size = 3 := rfl;have EN := Lib.hid fun w1 (hb : Below w.heap.size w w1) => frentries_any (bs [70, leafB leaf, n8]) (by rw [hT3]; omega) l (by omega) (fun i hi => ent_small hr hi) _ w1 (HV.out.kept hb)
  have hTS : (bs [70, leafB leaf, n8] ++ bs (entsB l)).size = 3 + 12 * l.length := by rw [ByteArray.size_append, bs_size, bs_size, entsB_length]; rfl
  have hTN : (bs [70, leafB leaf, n8] ++ bs (entsB l)) ++ bs (zerosF (125 - 12 * l.length)) = nodeB l leaf := by
   unfold nodeB nodeL zerosF;rw [hn8, bs_append, bs_append];rw [List.append_assoc]
  have MK := fun w1 => fz_made (125 - 12 * l.length) (by omega) w1;have BK := fun w1 => fz_back w1 (125 - 12 * l.length)
  have hsub : (128 : Int) - ((3 + 12 * l.length : Nat) : Int) = ((125 - 12 * l.length : Nat) : Int) := by omega
  obtain ⟨m, hm⟩ : ∃ m, 125 - 12 * l.length = m := ⟨_, rfl⟩;obtain ⟨sz, hsz⟩ : ∃ m, 3 + 12 * l.length = m := ⟨_, rfl⟩;rw [hm] at MK BK hsub hTN;rw [hsz] at hsub hTS
  have hmb : m ≤ 4096 := by omega
  have hszb : sz ≤ 128 := by omega
  obtain ⟨T2, hT2⟩ : ∃ T, bs [70, leafB leaf, n8] ++ bs (entsB l) = T := ⟨_, rfl⟩;rw [hT2] at EN hTS hTN;obtain ⟨T1, hT1⟩ : ∃ T, bs [70, leafB leaf, n8] = T := ⟨_, rfl⟩;rw [hT1] at EN CV
  have hZs : (bs (zerosF m)).size = m := by rw [bs_size, zerosF_len]
  obtain ⟨Z, hZ⟩ : ∃ T, bs (zerosF m) = T := ⟨_, rfl⟩;rw [hZ] at BK hTN hZs;rw [← hTN];clear hT1 hT2 hZ hm hsz hT3 hn8 hn8n hn hET hEE hr c3 c4 hv h1 h10 hTN
  cases leaf with
  | true =>
    rw [show ((leafB true).toNat : Int) = 1 from rfl] at CV
    go_enter Tryz.func11, Tryz.ntmps11
    go_wp2_with fail
    refine RR.out.mono ?_; rintro e w1 ⟨rfl, hb1⟩;go_wp2_with fail
    refine (EN.out _ (bnext hb1 (balloc1 w1 _))).mono ?_; rintro e w3 ⟨rfl, b3⟩;have hb3 := bnext (bnext hb1 (balloc1 w1 _)) b3;clear b3 hb1 EN CV;go_wp2
    go_ret2
    exact ⟨rfl, balloc hb3 _⟩
  | false =>
    rw [show ((leafB false).toNat : Int) = 0 from rfl] at CV
    go_enter Tryz.func11, Tryz.ntmps11
    go_wp2_with fail
    refine RR.out.mono ?_; rintro e w1 ⟨rfl, hb1⟩;go_wp2_with fail
    refine (EN.out _ (bnext hb1 (balloc1 w1 _))).mono ?_; rintro e w3 ⟨rfl, b3⟩;have hb3 := bnext (bnext hb1 (balloc1 w1 _)) b3;clear b3 hb1 EN CV;go_wp2
    go_ret2
    exact ⟨rfl, balloc hb3 _⟩
 ·rw [decide_eq_false hr] at RR
  have HN : Hid (encT l leaf = ⟨#[]⟩ ∧ encE l leaf = 2) := Lib.hid (by have hn : ¬ NodeOk l leaf := fun h => hr h.2.2
                                                                       unfold encT encE; rw [if_neg hn, if_neg hn]; exact ⟨rfl, rfl⟩)
  rw [HN.out.1, HN.out.2];clear c3 c4 hv h1
  go_enter Tryz.func11, Tryz.ntmps11
  go_wp2_with fail
  refine RR.out.mono ?_; rintro e w1 ⟨rfl, hb1⟩;go_wp2
  go_ret2
  exact ⟨rfl, hb1⟩
open Go.RowKit
theorem field_front (s : ByteArray) (a k : Nat) (h : a < s.size) : fieldAt s a (k + 1) = s[a] :: fieldAt s (a + 1) k := by
 unfold fieldAt
 have hl : a < s.data.toList.length := by simpa using h
 rw [List.drop_eq_getElem_cons hl, List.take_succ_cons];rfl
theorem leN_front (s : ByteArray) (a k : Nat) (h : a < s.size) : (leN (fieldAt s a (k + 1)) : Int) = (leN (fieldAt s (a + 1) k) : Int) * 256 + (s[a].toNat : Int) := by
 rw [field_front s a k h, show leN (s[a] :: fieldAt s (a + 1) k) = s[a].toNat + 256 * leN (fieldAt s (a + 1) k) from rfl];omega
theorem rfnumber_any (s : ByteArray) (hs : s.size ≤ maxLen) (a : Nat) (ha : a + 4 ≤ s.size) (w : World) :
 Calls Tryz.prog 42 #[.string s, .int .i64 (a : Int)] w fun e w' => e = .returned (.int .i64 (ubyte s a 4)) ∧ w = w' := by
 unfold maxLen at hs;unfold ubyte
 go_enter Tryz.func42, Tryz.ntmps42
 go_wp2
 go_loop [5, 6] (fun n i => ∃ k j : Nat, k + j = 4 ∧ i = .int .i64 ((j : Int) - 1) ∧ n = .int .i64 (leN (fieldAt s (a + j) k) : Int)) (fun _ i => (intOf i + 1).toNat)
 case atStart => exact ⟨0, 4, rfl, rfl, by unfold fieldAt; rfl⟩
 case round =>
  obtain ⟨k, j, hkj, rfl, rfl⟩ := hrel;by_cases hlt : 0 < j
  ·obtain ⟨j, rfl⟩ : ∃ j', j = j' + 1 := ⟨j - 1, by omega⟩
   have h1 := leN_front s (a + j) k (by omega);rw [show a + j + 1 = a + (j + 1) by omega] at h1;have h2 := leN_lt (fieldAt s (a + (j + 1)) k);rw [fieldAt_length s _ k (by omega)] at h2;have h3 : 256 ^ k ≤ 256 ^ 3 := Nat.pow_le_pow_right (by decide) (by omega)
   have h4 : (256 : Nat) ^ 3 = 16777216 := by decide
   have h5 : leN (fieldAt s (a + (j + 1)) k) < 16777216 := by omega
   have hb := UInt8.toNat_lt s[a + j];have d0 : decide ((0 : Int) ≤ (j : Int)) = true := decide_eq_true (by omega)
   have hj1 : ((j + 1 : Nat) : Int) - 1 = (j : Int) := by omega
   obtain ⟨p, hp⟩ : ∃ p, a + j = p := ⟨_, rfl⟩
   have ha1 : IntKind.i64.wrap ((a : Int) + (j : Int)) = (p : Int) := by rw [IntWalk.i64_in _ (by omega)]; omega
   have hps : p < s.size := by omega
   have hb0 : s[a + j] = s[p] := by congr 1
   rw [hb0] at h1 hb;have HX : Hid ((leN (fieldAt s (a + j) (k + 1)) : Int) = (leN (fieldAt s (a + (j + 1)) k) : Int) * 256 + (s[p].toNat : Int)) := Lib.hid h1;clear h1 h2 h3 h4 hb0;generalize leN (fieldAt s (a + (j + 1)) k) = N at *;rw [hj1];clear hj1;go_wp2;exact ⟨⟨k + 1, j, by omega, by go_num, by rw [HX.out]⟩, by simp [intOf] <;> omega⟩
  ·obtain rfl : j = 0 := by omega
   obtain rfl : k = 4 := by omega
   go_wp2;go_ret;exact ⟨rfl, rfl⟩
theorem dec_cut {s : ByteArray} (h128 : s.size = 128) {n : Nat} (hn : n = min (byteN s 2) 10) {lf : Bool} (hlf : leafN s = lf) :
 decL s = (if encE (entsN s n) lf = 0 ∧ encT (entsN s n) lf = s then entsN s n else []) ∧ decF s = (if encE (entsN s n) lf = 0 ∧ encT (entsN s n) lf = s then lf else false) ∧ decE s = (if encE (entsN s n) lf = 0 ∧ encT (entsN s n) lf = s then 0 else 80) := by
 by_cases hk : IsNode s
 ·obtain ⟨e1, e2, e3⟩ := dec_yes hk
  have hn2 : byteN s 2 = n := by have := hk.2.1; omega
  have k1 := hk.2.2.1;have k2 := isNode_eq hk;rw [hn2, hlf] at k1 k2
  have hc : encE (entsN s n) lf = 0 ∧ encT (entsN s n) lf = s := by unfold encE encT; rw [if_pos k1, if_pos k1]; exact ⟨rfl, k2⟩
  rw [if_pos hc, if_pos hc, if_pos hc, e1, e2, e3, hn2, hlf];exact ⟨rfl, rfl, rfl⟩
 ·obtain ⟨e1, e2, e3⟩ := dec_no hk
  have hc : ¬ (encE (entsN s n) lf = 0 ∧ encT (entsN s n) lf = s) := by
   rintro ⟨q1, q2⟩;unfold encE at q1;by_cases k1 : NodeOk (entsN s n) lf
   ·unfold encT at q2
    rw [if_pos k1] at q2;have h2 := (byteN_nodeB (entsN s n) lf).2;rw [q2, entsN_length] at h2
    have hn2 : byteN s 2 = n := by omega
    refine hk ⟨h128, by omega, ?_, ?_⟩
    ·rw [hn2, hlf]; exact k1
    ·rw [hn2, hlf, ← nodeB_list, q2]
   ·rw [if_neg k1] at q1; omega
  rw [if_neg hc, if_neg hc, if_neg hc];exact ⟨e1, e2, e3⟩
theorem rfdec_any (s : ByteArray) (hs : s.size ≤ maxLen) (w : World) :
 Calls Tryz.prog 13 #[.string s] w fun e w' => ∃ v, e = .returned (.tuple #[v, .bool (decF s), .int .i64 (decE s)]) ∧ EntsAt w.heap.size v (decL s) w' ∧ Below w.heap.size w w' := by
 by_cases h128 : s.size = 128
 ·have d0 : ((s.size : Int) != 128) = false := by simp; omega
  have hb2 := byteN_at s 2 (by omega);have hb1 := byteN_at s 1 (by omega);obtain ⟨n, hn⟩ : ∃ n, n = min (byteN s 2) 10 := ⟨_, rfl⟩;obtain ⟨B2, hB2⟩ : ∃ B, s[2].toNat = B := ⟨_, rfl⟩
  have hnB : n = min B2 10 := by rw [hn, hb2, hB2]
  have hB256 : B2 < 256 := by rw [← hB2]; exact UInt8.toNat_lt _
  obtain ⟨lf, hlf⟩ : ∃ lf, leafN s = lf := ⟨_, rfl⟩
  have d2 : (s[1] == 1) = lf := by
   rw [← hlf]; unfold leafN; rw [hb1, Bool.eq_iff_iff, beq_iff_eq, beq_iff_eq];exact ⟨fun h => by rw [h]; rfl, fun h => UInt8.toNat_inj.1 h⟩
  have d2i : ((s[1].toNat : Int) == 1) = lf := by
   rw [← hlf]; unfold leafN; rw [hb1, Bool.eq_iff_iff, beq_iff_eq, beq_iff_eq]; omega
  have EN := Lib.hid fun v W hv => rfenc_any (entsN s n) (entsN_fit s n) lf v W hv;have HFIN := Lib.hid (dec_cut h128 hn hlf)
  have hnl : n ≤ 10 := by omega
  have NB := Lib.hid fun (a : Nat) (ha : a + 4 ≤ 128) W => rfnumber_any s hs a (by omega) W;have HEN := Lib.hid fun k => entsN_succ s k;have HLN := Lib.hid fun k => entsN_length s k;have HS := Lib.hid hs;unfold maxLen at hs;have HNB := Lib.hid hnB;clear hb1 hb2 hlf hn hnB
  go_enter Tryz.func13, Tryz.ntmps13
  go_wp2
  go_loopw [5, 6] (fun v q wr => ∃ k : Nat, q = .int .i64 (k : Int) ∧ k ≤ n ∧ Hid (EntsAt w.heap.size v (entsN s k) wr) ∧ Hid (Below w.heap.size w wr)) (fun _ q _ => n - (intOf q).toNat)
  case atStart => exact ⟨0, rfl, by omega, Lib.hid (World.ownsRow_nil _ _ _ _), Lib.hid (Below.refl _ _)⟩
  case round =>
   obtain ⟨k, rfl, hk, HR, HB⟩ := hrel;by_cases hlt : k < n
   ·have hnB := HNB.out
    have c1 : decide ((k : Int) < (B2 : Int)) = true := decide_eq_true (by omega);have c2 : decide ((k : Int) < 10) = true := decide_eq_true (by omega);have c3 : decide (k < B2) = true := decide_eq_true (by omega);have c4 : decide (k < 10) = true := decide_eq_true (by omega)
    have c5 : k < B2 := by omega
    have c6 : k < 10 := by omega
    clear hnB;have M0 := Lib.hid (NB.out (3 + 12 * k) (by omega));have M1 := Lib.hid (NB.out (7 + 12 * k) (by omega));have M2 := Lib.hid (NB.out (11 + 12 * k) (by omega));rw [show ((3 + 12 * k : Nat) : Int) = 3 + 12 * (k : Int) by omega] at M0;rw [show ((7 + 12 * k : Nat) : Int) = 7 + 12 * (k : Int) by omega] at M1;rw [show ((11 + 12 * k : Nat) : Int) = 11 + 12 * (k : Int) by omega] at M2;have HSU := Lib.hid (HEN.out k);have HLE := Lib.hid (HLN.out k);unfold entN at HSU;generalize ubyte s (3 + 12 * k) 4 = ya at *;generalize ubyte s (7 + 12 * k) 4 = yp at *;generalize ubyte s (11 + 12 * k) 4 = yz at *;generalize entsN s k = LK at *;go_wp2_with fail
    refine (M0.out _).mono ?_; rintro e w' ⟨rfl, rfl⟩;go_wp2_with fail
    refine (M1.out _).mono ?_; rintro e w' ⟨rfl, rfl⟩;go_wp2_with fail
    refine (M2.out _).mono ?_; rintro e w' ⟨rfl, rfl⟩;clear M0 M1 M2;have hz := HB.out.size
    go_wp2_with (at_builtin; refine wpList_app3 rfl _ _ 22 31 rfl Tryz.underlying22 entry_info w.heap.size _ LK ⟨ya, yp, yz⟩ rfl (HR.out.alloc _) wr rfl wr.heap.size rfl rfl (by have := HLE.out; omega) (by rw [size_alloc]; omega) ?_)
    intro v' w4 h4 g4;have b4 : Below w.heap.size (wr.alloc (.cells #[.int .i64 ya, .int .i64 yp, .int .i64 yz] 31)) w4 := below_of_row (HR.out.alloc _) g4 (by rw [size_alloc]; omega);have HR4 : Hid (EntsAt w.heap.size v' (entsN s (k + 1)) w4) := Lib.hid (by rw [HSU.out]; exact ents_snoc h4);have HB4 : Hid (Below w.heap.size w w4) := Lib.hid ((balloc HB.out _).trans b4);clear h4 g4 b4 HR HB;go_wp2;exact ⟨⟨k + 1, by go_num, by omega, HR4, HB4⟩, by simp [intOf]; omega⟩
   ·obtain rfl : k = n := by omega
    have hz := HB.out.size;have HI := Lib.hid (entsAt_in HR.out);obtain ⟨va, vc, hvs, -⟩ := shape_of HR.out;subst hvs;have EN1 := Lib.hid (EN.out _ _ HI.out);have HE2 : Hid (encE (entsN s k) lf = 0 ∨ encE (entsN s k) lf = 2) := Lib.hid (by unfold encE; split <;> simp);clear EN HI NB HEN HLN;generalize encE (entsN s k) lf = EE at *;generalize encT (entsN s k) lf = ET at *;generalize entsN s k = LK at *
    have hc12 : (k < B2 ∧ ¬ k < 10) ∨ ¬ k < B2 := by
     have hnB := HNB.out;omega
    rcases hc12 with ⟨c5, c6⟩ | c5
    ·have c1 : decide ((k : Int) < (B2 : Int)) = true := decide_eq_true (by omega)
     have c2 : decide ((k : Int) < 10) = false := decide_eq_false (by omega);have c3 := decide_eq_true c5;have c4 := decide_eq_false c6;by_cases hq : EE = 0 ∧ ET = s
     ·have HX : Hid (decL s = LK ∧ decF s = lf ∧ decE s = 0) := Lib.hid (by have h := HFIN.out; rw [if_pos hq, if_pos hq, if_pos hq] at h; exact h)
      obtain ⟨rfl, hET⟩ := hq
      have t2 : (ET.toList == s.toList) = true := by rw [beq_iff_eq, hET]
      clear hET HE2 HFIN;go_wp2_with fail
      refine EN1.out.mono ?_; rintro e w5 ⟨rfl, b5⟩;have HR5 := Lib.hid (row_kept HR.out b5);have HB5 := Lib.hid (bnext HB.out b5);clear b5 EN1;go_wp2;go_ret3;obtain ⟨q1, q2, q3⟩ := HX.out;exact ⟨_, by rw [q2, q3]; rfl, by rw [q1]; exact HR5.out, HB5.out⟩
     ·have HX : Hid (decL s = [] ∧ decF s = false ∧ decE s = 80) := Lib.hid (by have h := HFIN.out; rw [if_neg hq, if_neg hq, if_neg hq] at h; exact h)
      by_cases hE : EE = 0
      ·subst hE
       have t2 : (ET.toList == s.toList) = false := by rw [beq_eq_false_iff_ne]; exact fun h => hq ⟨rfl, (str_iff _ _).1 h⟩
       clear hq HE2 HFIN;go_wp2_with fail
       refine EN1.out.mono ?_; rintro e w5 ⟨rfl, b5⟩;have HB5 := Lib.hid (bnext HB.out b5);clear b5 EN1;go_wp2;go_ret3;obtain ⟨q1, q2, q3⟩ := HX.out;exact ⟨_, by rw [q2, q3]; rfl, by rw [q1]; exact World.ownsRow_nil _ _ _ _, HB5.out⟩
      ·obtain rfl : EE = 2 := by have := HE2.out; omega
       clear hq HE2 hE HFIN;go_wp2_with fail
       refine EN1.out.mono ?_; rintro e w5 ⟨rfl, b5⟩;have HB5 := Lib.hid (bnext HB.out b5);clear b5 EN1;go_wp2;go_ret3;obtain ⟨q1, q2, q3⟩ := HX.out;exact ⟨_, by rw [q2, q3]; rfl, by rw [q1]; exact World.ownsRow_nil _ _ _ _, HB5.out⟩
    ·have c1 : decide ((k : Int) < (B2 : Int)) = false := decide_eq_false (by omega)
     have c3 := decide_eq_false c5;by_cases hq : EE = 0 ∧ ET = s
     ·have HX : Hid (decL s = LK ∧ decF s = lf ∧ decE s = 0) := Lib.hid (by have h := HFIN.out; rw [if_pos hq, if_pos hq, if_pos hq] at h; exact h)
      obtain ⟨rfl, hET⟩ := hq
      have t2 : (ET.toList == s.toList) = true := by rw [beq_iff_eq, hET]
      clear hET HE2 HFIN;go_wp2_with fail
      refine EN1.out.mono ?_; rintro e w5 ⟨rfl, b5⟩;have HR5 := Lib.hid (row_kept HR.out b5);have HB5 := Lib.hid (bnext HB.out b5);clear b5 EN1;go_wp2;go_ret3;obtain ⟨q1, q2, q3⟩ := HX.out;exact ⟨_, by rw [q2, q3]; rfl, by rw [q1]; exact HR5.out, HB5.out⟩
     ·have HX : Hid (decL s = [] ∧ decF s = false ∧ decE s = 80) := Lib.hid (by have h := HFIN.out; rw [if_neg hq, if_neg hq, if_neg hq] at h; exact h)
      by_cases hE : EE = 0
      ·subst hE
       have t2 : (ET.toList == s.toList) = false := by rw [beq_eq_false_iff_ne]; exact fun h => hq ⟨rfl, (str_iff _ _).1 h⟩
       clear hq HE2 HFIN;go_wp2_with fail
       refine EN1.out.mono ?_; rintro e w5 ⟨rfl, b5⟩;have HB5 := Lib.hid (bnext HB.out b5);clear b5 EN1;go_wp2;go_ret3;obtain ⟨q1, q2, q3⟩ := HX.out;exact ⟨_, by rw [q2, q3]; rfl, by rw [q1]; exact World.ownsRow_nil _ _ _ _, HB5.out⟩
      ·obtain rfl : EE = 2 := by have := HE2.out; omega
       clear hq HE2 hE HFIN;go_wp2_with fail
       refine EN1.out.mono ?_; rintro e w5 ⟨rfl, b5⟩;have HB5 := Lib.hid (bnext HB.out b5);clear b5 EN1;go_wp2;go_ret3;obtain ⟨q1, q2, q3⟩ := HX.out;exact ⟨_, by rw [q2, q3]; rfl, by rw [q1]; exact World.ownsRow_nil _ _ _ _, HB5.out⟩
 ·have d0 : ((s.size : Int) != 128) = true := by simp; omega
  obtain ⟨e1, e2, e3⟩ := dec_no (s := s) fun h => h128 h.1;rw [e1, e2, e3];clear e1 e2 e3;unfold maxLen at hs
  go_enter Tryz.func13, Tryz.ntmps13
  go_wp2;go_ret3;exact ⟨_, rfl, World.ownsRow_nil _ _ _ _, Below.refl _ _⟩
end Go.Proofs.YtknefoemgifbfaaGreat
