import Derived.Test.YtknefoemgifbfaaGreatPd19
import Derived.Test.YtknefoemgifbfaaGreatPd20
set_option linter.unusedVariables false
set_option linter.unusedSimpArgs false
set_option linter.constructorNameAsVariable false
set_option maxRecDepth 100000
set_option maxHeartbeats 16000000
namespace Go.Proofs.YtknefoemgifbfaaGreat
open Go.RowKit
def encT (l : List Ent) (leaf : Bool) : ByteArray := if NodeOk l leaf then nodeB l leaf else ⟨#[]⟩
def encE (l : List Ent) (leaf : Bool) : Int := if NodeOk l leaf then 0 else 2
def fkV (L : List UInt8) (n : Nat) : Nat → Value := fun p => .int .u8 ((if p < n then ((L[p]?).getD 0).toNat else 0 : Nat) : Int)
theorem fkV_put (L : List UInt8) (n : Nat) (j : Nat) : upd (fkV L n) n (.int .u8 ((((L[n]?).getD 0).toNat : Nat) : Int)) j = fkV L (n + 1) j := by
 unfold upd fkV;by_cases h : j = n
 ·subst h; rw [if_pos rfl, if_pos (Nat.lt_succ_self _)]
 ·rw [if_neg h]
  by_cases h2 : j < n
  ·rw [if_pos h2, if_pos (by omega)]
  ·rw [if_neg h2, if_neg (by omega)]
def tri (y : Ent) : Nat → Int
 | 0 => y.log
 | 1 => y.phys
 | _ => y.len
theorem leB_at : ∀ (z n q : Nat), q < z → (leB z n)[q]? = some (UInt8.ofNat (n / 256 ^ q))
 | 0, n, q, h => by omega
 | z + 1, n, 0, h => by simp [leB]
 | z + 1, n, q + 1, h => by
   rw [leB, List.getElem?_cons_succ, leB_at z (n / 256) q (by omega), Nat.div_div_eq_div_mul, Nat.pow_succ, Nat.mul_comm 256]
theorem node_byte {l : List Ent} {leaf : Bool} {k j q : Nat} (hk : k < l.length) (hj : j < 3) (hq : q < 4) : ((nodeL l leaf)[3 + 12 * k + 4 * j + q]?).getD 0 = UInt8.ofNat ((tri (eat l k) j).toNat / 256 ^ q) := by
 obtain ⟨p, r, e, hp⟩ := entsB_at l k hk;unfold nodeL;rw [e, List.getElem?_append_right (by show 3 ≤ _; omega), show [70, leafB leaf, UInt8.ofNat l.length].length = 3 from rfl, List.append_assoc, List.getElem?_append_right (by omega), hp]
 have e2 : 3 + 12 * k + 4 * j + q - 3 - 12 * k = 4 * j + q := by omega
 rw [e2];unfold entB;simp only [List.append_assoc]
 have : j = 0 ∨ j = 1 ∨ j = 2 := by omega
 rcases this with rfl | rfl | rfl
 ·rw [List.getElem?_append_left (by rw [leB_length]; omega), leB_at _ _ _ (by omega)]; simp [tri]
 ·rw [List.getElem?_append_right (by rw [leB_length]; omega), List.getElem?_append_left (by rw [leB_length, leB_length]; omega), leB_length, leB_at _ _ _ (by omega)]; simp [tri]
 ·rw [List.getElem?_append_right (by rw [leB_length]; omega), List.getElem?_append_right (by rw [leB_length, leB_length]; omega), List.getElem?_append_left (by rw [leB_length, leB_length, leB_length]; omega), leB_length, leB_length, show 4 * 2 + q - 4 - 4 = q by omega, leB_at _ _ _ (by omega)]; simp [tri]
theorem fkV_end {l : List Ent} {leaf : Bool} {p : Nat} (h10 : l.length ≤ 10) (hp : p < 128) : fkV (nodeL l leaf) (3 + 12 * l.length) p = fkV (nodeL l leaf) 128 p := by
 unfold fkV;rw [if_pos hp];by_cases h : p < 3 + 12 * l.length
 ·rw [if_pos h]
 ·rw [if_neg h]
  unfold nodeL;rw [← List.append_assoc, List.getElem?_append_right (by rw [List.length_append, entsB_length]; show 3 + _ ≤ p; omega), List.getElem?_replicate]
  split <;> rfl
theorem fk_text {gb : Nat} {L : List UInt8} {w : World} (hl : L.length = 128) (h : CellsAt gb 128 (fkV L 128) w) :
 (convert 97 9 (.slice (some ⟨gb, 0, none⟩) 128 128)).run Tryz.prog w = .ok (.string (bs L)) w := by
 have h := run_convert_bytes_back (P := Tryz.prog) w 97 9 5 ⟨gb, 0, none⟩ 128 L Tryz.underlying97 Tryz.underlying5 Tryz.underlying9 fun j hj => by
  rw [add_at, Nat.zero_add, (h.2 j (by omega)).1];unfold fkV;rw [if_pos (by omega), List.getElem?_eq_getElem hj]; rfl
 rw [hl] at h;exact h
theorem byte_of (z : Int) (h : 0 ≤ z) (i : Nat) : z / 2 ^ (8 * i) % 256 = (((UInt8.ofNat (z.toNat / 256 ^ i)).toNat : Nat) : Int) := by
 obtain ⟨n, rfl⟩ := Int.eq_ofNat_of_zero_le h
 have e : (2 : Int) ^ (8 * i) = ((256 ^ i : Nat) : Int) := by
  rw [show (256 : Nat) ^ i = 2 ^ (8 * i) from by rw [Nat.pow_mul]];exact (Int.natCast_pow 2 (8 * i)).symm
 rw [UInt8.toNat_ofNat', Int.toNat_natCast, e];omega
theorem zero128 : Tryz.zeroCells95 = Array.replicate 128 (.int .u8 0) := by kernel_rfl
theorem arr128_info : (Tryz.prog.info? 95).map (·.size) = some 128 := by kernel_rfl
theorem head_cells (l : List Ent) (h10 : l.length ≤ 10) : ∀ p, p < 128 → (((Tryz.zeroCells95).setIfInBounds 0 (.int .u8 70)).setIfInBounds 2 (.int .u8 (l.length : Int)))[p]? = some (fkV (nodeL l false) 3 p) := by
 intro p hp;rw [zero128, Array.getElem?_setIfInBounds, Array.getElem?_setIfInBounds]
 have e : (nodeL l false)[p]? = if p = 0 then some 70 else if p = 1 then some 0 else if p = 2 then some (UInt8.ofNat l.length) else (nodeL l false)[p]? := by
  unfold nodeL leafB
  match p with
  | 0 => rfl
  | 1 => rfl
  | 2 => rfl
  | p + 3 => rfl
 unfold fkV;rw [e]
 have h256 : l.length % 256 = l.length := by omega
 match p with
 | 0 => simp
 | 1 => simp
 | 2 => simp [h256]
 | p + 3 =>
   rw [if_neg (show ¬ p + 3 < 3 by omega)]
   simp [hp]
theorem head_one (l : List Ent) : (((Tryz.zeroCells95).setIfInBounds 0 (.int .u8 70)).setIfInBounds 2 (.int .u8 (l.length : Int))).all (·.oneCell') = true := by
 rw [zero128, ← Array.all_toList, List.all_eq_true];intro x hx;simp only [Array.toList_setIfInBounds, Array.toList_replicate] at hx;rcases List.mem_or_eq_of_mem_set hx with hx | rfl
 ·rcases List.mem_or_eq_of_mem_set hx with hx | rfl
  ·rw [List.eq_of_mem_replicate hx]; rfl
  ·rfl
 ·rfl
theorem fkenc_any (l : List Ent) (hf : fitE l) (leaf : Bool) (v : Value) (w : World) (hv : EntsIn v l w) :
 Calls Tryz.prog 10 #[v, .bool leaf] w fun e w' => e = .returned (.tuple #[.string (encT l leaf), .int .i64 (encE l leaf)]) ∧ Below w.heap.size w w' := by
 have mixed : Tryz.prog.follows .mixedOrders = true := by kernel_rfl
 have VA := Lib.hid (fkvalid_any l hf leaf v w hv);obtain ⟨ad, cap, rfl, c1, c2, c3, c4⟩ := entsIn_cells hv;unfold encT encE;by_cases hok : NodeOk l leaf
 ·rw [if_pos hok, if_pos hok]
  rw [decide_eq_true hok] at VA;have h10 := hok.2.1;have h1 := hok.1;obtain ⟨g, o, rfl, hg, hc⟩ := c3 (by omega);have HC := Lib.hid hc;have HEC := head_cells l h10;have HOK := Lib.hid hok;clear c3 c4 hv hok hc hf
  go_enter Tryz.func10, Tryz.ntmps10
  go_wp2_with fail
  refine VA.out.mono ?_; rintro e w1 ⟨rfl, b1⟩;obtain ⟨gb, hgb⟩ : ∃ gb, w1.heap.size = gb := ⟨_, rfl⟩;obtain ⟨w2, hw2⟩ : ∃ w2, w1.alloc (.cells Tryz.zeroCells95 95) = w2 := ⟨_, rfl⟩
  have hB2 : w2.heap[gb]? = some (.cells Tryz.zeroCells95 95 (0, 0)) := by rw [← hw2, ← hgb]; exact heap_alloc_new _ _
  obtain ⟨w3, hw3⟩ : ∃ w3, w2.setRow gb (((Tryz.zeroCells95).setIfInBounds 0 (.int .u8 70)).setIfInBounds 2 (.int .u8 (l.length : Int))) = w3 := ⟨_, rfl⟩
  have hB3 : Blk gb (((Tryz.zeroCells95).setIfInBounds 0 (.int .u8 70)).setIfInBounds 2 (.int .u8 (l.length : Int))) 95 w3 := by rw [← hw3]; exact setRow_heap _ _ _ _ _ _ hB2
  have HCL : Hid (CellsAt gb 128 (fkV (nodeL l false) 3) w3) := Lib.hid ⟨hB3.lt, fun j hj => ⟨(hB3.cell j).trans (HEC j hj), hB3.frozen j⟩⟩
  have hgw : w.heap.size ≤ gb := by have := b1.size; omega
  have HB3 : Hid (Below w.heap.size w w3) := Lib.hid (b1.trans (by
   have q1 : Below w1.heap.size w1 w2 := by rw [← hw2]; exact balloc1 _ _
   have q2 : Below gb w2 w3 := by rw [← hw3]; exact setRow_below (Nat.le_refl _) _
   exact (q1.mono (by omega)).trans (q2.mono hgw)))
  have H0 := head_one l;have HB2 := Lib.hid hB2;have HGB := Lib.hid hgb;have HW2 := Lib.hid hw2;have HW3 := Lib.hid hw3;clear hB3 HEC hw2 hw3 hgb b1 VA hB2
  go_upto_region 4 with (rw [HW2.out, HGB.out]; refine wpList_store_row rfl _ _ _ rfl gb _ rfl rfl _ _ HB2.out (by rw [arr128_info]; rfl) rfl H0 ?_)
  rw [HW3.out];clear HB2 HW2 HW3 H0;have HNB := Lib.hid fun k j q hk hj hq => node_byte (l := l) (leaf := leaf) (k := k) (j := j) (q := q) hk hj hq;have HSM := Lib.hid fun i hi => ent_small HOK.out.2.2 (i := i) hi;have HCL4 : Hid (∀ W, CellsAt gb 128 (fkV (nodeL l leaf) 3) W → True) := Lib.hid fun _ _ => trivial;obtain ⟨w4, hw4⟩ : ∃ w4, (if leaf then w3.setCell ⟨gb, 1, none⟩ (.int .u8 1) else w3) = w4 := ⟨_, rfl⟩
  have HC4 : Hid (CellsAt gb 128 (fkV (nodeL l leaf) 3) w4) := Lib.hid (by
   rw [← hw4]
   cases leaf with
   | false => exact HCL.out
   | true =>
     refine (HCL.out.set (i := 1) (by omega) (.int .u8 1)).congr fun p hp => ?_;unfold upd fkV nodeL leafB
     match p with
     | 0 => rfl
     | 1 => rfl
     | 2 => rfl
     | p + 3 => rw [if_neg (by omega), if_neg (by omega)]; rfl)
  have HB4 : Hid (Below w.heap.size w w4) := Lib.hid (by
   rw [← hw4]
   cases leaf with
   | false => exact HB3.out
   | true => exact HB3.out.setCell (p := ⟨gb, 1, none⟩) hgw _)
  have r1 := (HCL.out.2 1 (by omega)).1;have f1 := (HCL.out.2 1 (by omega)).2;have HW4 := Lib.hid hw4;clear HCL4 hw4 HB3 HCL
  cases leaf with
  | false =>
    have HW5 : w3 = w4 := HW4.out;subst HW5;clear HW4 r1 f1
    go_upto_region 6 with fail
    go_wp2
    go_loopw [24] (fun q wr => ∃ k : Nat, q = .int .i64 (k : Int) ∧ k ≤ l.length ∧ Hid (CellsAt gb 128 (fkV (nodeL l _) (3 + 12 * k)) wr) ∧ Hid (Below w.heap.size w wr)) (fun q _ => l.length - (intOf q).toNat)
    case atStart => exact ⟨0, rfl, by omega, HC4, HB4⟩
    case round =>
     clear HC4 HB4;obtain ⟨k, rfl, hk, HC4, HB4⟩ := hrel;by_cases hlt : k < l.length
     ·obtain ⟨x1, x2, x3⟩ := HC.out wr HB4.out k hlt
      obtain ⟨w5, hw5⟩ : ∃ w5, wr.alloc (.cells (entC (eat l k)) 31) = w5 := ⟨_, rfl⟩
      have b5 : Below wr.heap.size wr w5 := by rw [← hw5]; exact balloc1 _ _
      have B5 : Blk wr.heap.size (entC (eat l k)) 31 w5 := by rw [← hw5]; exact Blk.new _ _ _
      have z5 : w5.heap.size = wr.heap.size + 1 := by rw [← hw5]; exact size_alloc _ _
      obtain ⟨ge, hge⟩ : ∃ ge, wr.heap.size = ge := ⟨_, rfl⟩;have y0 := B5.cell 0;have y1 := B5.cell 1;have y2 := B5.cell 2;simp only [List.getElem?_toArray, List.getElem?_cons_zero, List.getElem?_cons_succ] at y0 y1 y2;rw [hge] at y0 y1 y2 z5;obtain ⟨w6, hw6⟩ : ∃ w6, w5.alloc (.cells #[.int .i64 (eat l k).log, .int .i64 (eat l k).phys, .int .i64 (eat l k).len] 3) = w6 := ⟨_, rfl⟩
      have b6 : Below w5.heap.size w5 w6 := by rw [← hw6]; exact balloc1 _ _
      have HBI : Hid (Blk (ge + 1) #[.int .i64 (eat l k).log, .int .i64 (eat l k).phys, .int .i64 (eat l k).len] 3 w6) := Lib.hid (by rw [← hw6, ← z5]; exact Blk.new _ _ _);have HC6 := Lib.hid ((HC4.out.kept1 b5).kept1 b6);have HB6 := Lib.hid (bnext (bnext HB4.out b5) b6);have HWQ := Lib.hid hw5;have HWR := Lib.hid hw6;have HGE := Lib.hid hge;have HZ5 := Lib.hid z5;have HXP := Lib.hid (HSM.out k hlt);have HNK := Lib.hid fun j q hj hq => HNB.out k j q hlt hj hq;have HG2 : Hid (gb < ge) := Lib.hid (by have := HC4.out.1; omega);clear b5 b6 B5 hw5 hw6 hge HC4 HB4 z5
      go_upto_region 9 with fail
      rw [HWQ.out]
      try rw [HGE.out]
      have HTRI : Hid (∀ j, j < 3 → #[Value.int .i64 (eat l k).log, .int .i64 (eat l k).phys, .int .i64 (eat l k).len][j]? = some (.int .i64 (tri (eat l k) j))) := Lib.hid fun j hj => by
       have : j = 0 ∨ j = 1 ∨ j = 2 := by omega
       rcases this with rfl | rfl | rfl <;> rfl
      have HTP : Hid (∀ j, 0 ≤ tri (eat l k) j ∧ tri (eat l k) j ≤ 4096) := Lib.hid fun j => by
       match j with
       | 0 => exact HXP.out.1
       | 1 => exact HXP.out.2.1
       | j + 2 => exact HXP.out.2.2
      clear HXP;generalize tri (eat l k) = TR at *;generalize eat l k = y at *;go_wp2;rw [HWR.out]
      try rw [HZ5.out]
      clear HWQ HWR HGE HZ5 x1 x2 x3 y0 y1 y2
      go_loopw [37] (fun q wr => ∃ j : Nat, q = .int .i64 (j : Int) ∧ j ≤ 3 ∧ Hid (CellsAt gb 128 (fkV (nodeL l _) (3 + 12 * k + 4 * j)) wr) ∧ Hid (Blk (ge + 1) #[.int .i64 y.log, .int .i64 y.phys, .int .i64 y.len] 3 wr) ∧ Hid (Below w.heap.size w wr)) (fun q _ => 3 - (intOf q).toNat)
      case atStart => exact ⟨0, rfl, by omega, HC6, HBI, HB6⟩
      case round =>
       clear HC6 HBI HB6;obtain ⟨j, rfl, hj, HC6, HBI, HB6⟩ := hrel;by_cases hlt2 : j < 3
       ·have tj : decide ((j : Int) < 3) = true := decide_eq_true (by omega)
        have cj : wr.cell? ⟨ge + 1, j, none⟩ = some (.int .i64 (TR j)) := (HBI.out.cell j).trans (HTRI.out j hlt2);have HZ := Lib.hid (HTP.out j);have HNQ := Lib.hid fun q hq => HNK.out j q hlt2 hq;generalize TR j = z at *;go_wp2;clear cj
        go_loopw [42] (fun q wr => ∃ i : Nat, q = .int .i64 (i : Int) ∧ i ≤ 4 ∧ Hid (CellsAt gb 128 (fkV (nodeL l _) (3 + 12 * k + 4 * j + i)) wr) ∧ Hid (Blk (ge + 1) #[.int .i64 y.log, .int .i64 y.phys, .int .i64 y.len] 3 wr) ∧ Hid (Below w.heap.size w wr)) (fun q _ => 4 - (intOf q).toNat)
        case atStart => exact ⟨0, rfl, by omega, HC6, HBI, HB6⟩
        case round =>
         clear HC6 HBI HB6;obtain ⟨i, rfl, hi, HC6, HBI, HB6⟩ := hrel;by_cases hlt3 : i < 4
         ·have ti : decide ((i : Int) < 4) = true := decide_eq_true (by omega)
          obtain ⟨A, hA⟩ : ∃ A : Nat, 3 + 12 * k + 4 * j = A := ⟨_, rfl⟩;have NA := Lib.hid fun W => (by have := fknumberAt_any (k : Int) (j : Int) ⟨by omega, by omega⟩ ⟨by omega, by omega⟩ W; rw [show 3 + 12 * (k : Int) + 4 * (j : Int) = (A : Int) by omega] at this; exact this.mono fun e w' ⟨h1, h2⟩ => ⟨h1, h2 ▸ Below.refl _ _⟩ : Calls Tryz.prog 38 #[.int .i64 (k : Int), .int .i64 (j : Int)] W fun e w' => e = .returned (.int .i64 (A : Int)) ∧ Below W.heap.size W w');obtain ⟨yy, hyy⟩ : ∃ yy : Nat, A + i = yy := ⟨_, rfl⟩
          have hy : (A : Int) + (i : Int) = (yy : Int) := by omega
          have hy1 : yy < 128 := by omega
          obtain ⟨sh, hsh⟩ : ∃ sh : Nat, 8 * i = sh := ⟨_, rfl⟩
          have hs : 8 * (i : Int) = (sh : Int) := by omega
          have HCE := Lib.hid (show CellsAt gb 128 (fkV (nodeL l _) yy) wr from by rw [← hyy, ← hA]; exact HC6.out);have HBY := Lib.hid (HNQ.out i hlt3);rw [hA, hyy] at HBY;have HYY := Lib.hid hyy;have HAA := Lib.hid hA;clear HC6 hyy hA;go_wp2;refine wp_region_tail_below 11 mixed (by kernel_rfl) ?_;simp only [List.take_succ_cons, List.take_zero, List.drop_succ_cons, List.drop_zero]
          repeat (go_big_quiet_step (first | (go_at_call 38; refine calls_below (NA.out _))))
          refine wpQuiet_nil ?_;intro w0q hw';obtain ⟨⟨wq, bq⟩, hw''⟩ := hw';have hw2 : wq = w0q := hw''.symm;clear hw'';subst hw2;have HCE := Lib.hid (HCE.out.kept1 bq);have HBI := Lib.hid (HBI.out.kept1 bq);have HB6 := Lib.hid (bnext HB6.out bq);have r1 := (HCE.out.2 yy hy1).1;have f1 := (HCE.out.2 yy hy1).2;clear bq NA;go_wp2;have hzb := byte_of z HZ.out.1 i;rw [hsh] at hzb;rw [hzb, ← HBY.out];have hgb2 := HG2.out;exact ⟨⟨i + 1, by go_num, by omega, Lib.hid (by rw [show 3 + 12 * k + 4 * j + (i + 1) = yy + 1 by have := HYY.out; have := HAA.out; omega]; exact (HCE.out.set hy1 _).congr fun p _ => fkV_put _ _ p), Lib.hid (HBI.out.other (by show gb ≠ ge + 1; omega) _), Lib.hid (HB6.out.setCell (p := ⟨gb, yy, none⟩) hgw _)⟩, by simp [intOf]; omega⟩
         ·obtain rfl : i = 4 := by omega
          have ti : decide (((4 : Nat) : Int) < 4) = false := by decide
          go_wp2;exact ⟨⟨j + 1, by go_num, by omega, Lib.hid (by rw [show 3 + 12 * k + 4 * (j + 1) = 3 + 12 * k + 4 * j + 4 by omega]; exact HC6.out), HBI, HB6⟩, by simp [intOf]; omega⟩
       ·obtain rfl : j = 3 := by omega
        have tj : decide (((3 : Nat) : Int) < 3) = false := by decide
        go_wp2;exact ⟨⟨k + 1, by go_num, by omega, Lib.hid (by rw [show 3 + 12 * (k + 1) = 3 + 12 * k + 4 * 3 by omega]; exact HC6.out), HB6⟩, by simp [intOf]; omega⟩
     ·obtain rfl : k = l.length := by omega
      have TX := fk_text (nodeL_length _ h10) (HC4.out.congr fun p hp => fkV_end h10 hp);go_wp2
      go_ret2
      exact ⟨rfl, HB4.out⟩
  | true =>
    have HW5 : w3.setCell ⟨gb, 1, none⟩ (.int .u8 1) = w4 := HW4.out;have HW6 := Lib.hid HW5;clear HW4 HW5
    go_upto_region 6 with fail
    rw [HW6.out];clear HW6 r1 f1;go_wp2
    go_loopw [24] (fun q wr => ∃ k : Nat, q = .int .i64 (k : Int) ∧ k ≤ l.length ∧ Hid (CellsAt gb 128 (fkV (nodeL l _) (3 + 12 * k)) wr) ∧ Hid (Below w.heap.size w wr)) (fun q _ => l.length - (intOf q).toNat)
    case atStart => exact ⟨0, rfl, by omega, HC4, HB4⟩
    case round =>
     clear HC4 HB4;obtain ⟨k, rfl, hk, HC4, HB4⟩ := hrel;by_cases hlt : k < l.length
     ·obtain ⟨x1, x2, x3⟩ := HC.out wr HB4.out k hlt
      obtain ⟨w5, hw5⟩ : ∃ w5, wr.alloc (.cells (entC (eat l k)) 31) = w5 := ⟨_, rfl⟩
      have b5 : Below wr.heap.size wr w5 := by rw [← hw5]; exact balloc1 _ _
      have B5 : Blk wr.heap.size (entC (eat l k)) 31 w5 := by rw [← hw5]; exact Blk.new _ _ _
      have z5 : w5.heap.size = wr.heap.size + 1 := by rw [← hw5]; exact size_alloc _ _
      obtain ⟨ge, hge⟩ : ∃ ge, wr.heap.size = ge := ⟨_, rfl⟩;have y0 := B5.cell 0;have y1 := B5.cell 1;have y2 := B5.cell 2;simp only [List.getElem?_toArray, List.getElem?_cons_zero, List.getElem?_cons_succ] at y0 y1 y2;rw [hge] at y0 y1 y2 z5;obtain ⟨w6, hw6⟩ : ∃ w6, w5.alloc (.cells #[.int .i64 (eat l k).log, .int .i64 (eat l k).phys, .int .i64 (eat l k).len] 3) = w6 := ⟨_, rfl⟩
      have b6 : Below w5.heap.size w5 w6 := by rw [← hw6]; exact balloc1 _ _
      have HBI : Hid (Blk (ge + 1) #[.int .i64 (eat l k).log, .int .i64 (eat l k).phys, .int .i64 (eat l k).len] 3 w6) := Lib.hid (by rw [← hw6, ← z5]; exact Blk.new _ _ _);have HC6 := Lib.hid ((HC4.out.kept1 b5).kept1 b6);have HB6 := Lib.hid (bnext (bnext HB4.out b5) b6);have HWQ := Lib.hid hw5;have HWR := Lib.hid hw6;have HGE := Lib.hid hge;have HZ5 := Lib.hid z5;have HXP := Lib.hid (HSM.out k hlt);have HNK := Lib.hid fun j q hj hq => HNB.out k j q hlt hj hq;have HG2 : Hid (gb < ge) := Lib.hid (by have := HC4.out.1; omega);clear b5 b6 B5 hw5 hw6 hge HC4 HB4 z5
      go_upto_region 9 with fail
      rw [HWQ.out]
      try rw [HGE.out]
      have HTRI : Hid (∀ j, j < 3 → #[Value.int .i64 (eat l k).log, .int .i64 (eat l k).phys, .int .i64 (eat l k).len][j]? = some (.int .i64 (tri (eat l k) j))) := Lib.hid fun j hj => by
       have : j = 0 ∨ j = 1 ∨ j = 2 := by omega
       rcases this with rfl | rfl | rfl <;> rfl
      have HTP : Hid (∀ j, 0 ≤ tri (eat l k) j ∧ tri (eat l k) j ≤ 4096) := Lib.hid fun j => by
       match j with
       | 0 => exact HXP.out.1
       | 1 => exact HXP.out.2.1
       | j + 2 => exact HXP.out.2.2
      clear HXP;generalize tri (eat l k) = TR at *;generalize eat l k = y at *;go_wp2;rw [HWR.out]
      try rw [HZ5.out]
      clear HWQ HWR HGE HZ5 x1 x2 x3 y0 y1 y2
      go_loopw [37] (fun q wr => ∃ j : Nat, q = .int .i64 (j : Int) ∧ j ≤ 3 ∧ Hid (CellsAt gb 128 (fkV (nodeL l _) (3 + 12 * k + 4 * j)) wr) ∧ Hid (Blk (ge + 1) #[.int .i64 y.log, .int .i64 y.phys, .int .i64 y.len] 3 wr) ∧ Hid (Below w.heap.size w wr)) (fun q _ => 3 - (intOf q).toNat)
      case atStart => exact ⟨0, rfl, by omega, HC6, HBI, HB6⟩
      case round =>
       clear HC6 HBI HB6;obtain ⟨j, rfl, hj, HC6, HBI, HB6⟩ := hrel;by_cases hlt2 : j < 3
       ·have tj : decide ((j : Int) < 3) = true := decide_eq_true (by omega)
        have cj : wr.cell? ⟨ge + 1, j, none⟩ = some (.int .i64 (TR j)) := (HBI.out.cell j).trans (HTRI.out j hlt2);have HZ := Lib.hid (HTP.out j);have HNQ := Lib.hid fun q hq => HNK.out j q hlt2 hq;generalize TR j = z at *;go_wp2;clear cj
        go_loopw [42] (fun q wr => ∃ i : Nat, q = .int .i64 (i : Int) ∧ i ≤ 4 ∧ Hid (CellsAt gb 128 (fkV (nodeL l _) (3 + 12 * k + 4 * j + i)) wr) ∧ Hid (Blk (ge + 1) #[.int .i64 y.log, .int .i64 y.phys, .int .i64 y.len] 3 wr) ∧ Hid (Below w.heap.size w wr)) (fun q _ => 4 - (intOf q).toNat)
        case atStart => exact ⟨0, rfl, by omega, HC6, HBI, HB6⟩
        case round =>
         clear HC6 HBI HB6;obtain ⟨i, rfl, hi, HC6, HBI, HB6⟩ := hrel;by_cases hlt3 : i < 4
         ·have ti : decide ((i : Int) < 4) = true := decide_eq_true (by omega)
          obtain ⟨A, hA⟩ : ∃ A : Nat, 3 + 12 * k + 4 * j = A := ⟨_, rfl⟩;have NA := Lib.hid fun W => (by have := fknumberAt_any (k : Int) (j : Int) ⟨by omega, by omega⟩ ⟨by omega, by omega⟩ W; rw [show 3 + 12 * (k : Int) + 4 * (j : Int) = (A : Int) by omega] at this; exact this.mono fun e w' ⟨h1, h2⟩ => ⟨h1, h2 ▸ Below.refl _ _⟩ : Calls Tryz.prog 38 #[.int .i64 (k : Int), .int .i64 (j : Int)] W fun e w' => e = .returned (.int .i64 (A : Int)) ∧ Below W.heap.size W w');obtain ⟨yy, hyy⟩ : ∃ yy : Nat, A + i = yy := ⟨_, rfl⟩
          have hy : (A : Int) + (i : Int) = (yy : Int) := by omega
          have hy1 : yy < 128 := by omega
          obtain ⟨sh, hsh⟩ : ∃ sh : Nat, 8 * i = sh := ⟨_, rfl⟩
          have hs : 8 * (i : Int) = (sh : Int) := by omega
          have HCE := Lib.hid (show CellsAt gb 128 (fkV (nodeL l _) yy) wr from by rw [← hyy, ← hA]; exact HC6.out);have HBY := Lib.hid (HNQ.out i hlt3);rw [hA, hyy] at HBY;have HYY := Lib.hid hyy;have HAA := Lib.hid hA;clear HC6 hyy hA;go_wp2;refine wp_region_tail_below 11 mixed (by kernel_rfl) ?_;simp only [List.take_succ_cons, List.take_zero, List.drop_succ_cons, List.drop_zero]
          repeat (go_big_quiet_step (first | (go_at_call 38; refine calls_below (NA.out _))))
          refine wpQuiet_nil ?_;intro w0q hw';obtain ⟨⟨wq, bq⟩, hw''⟩ := hw';have hw2 : wq = w0q := hw''.symm;clear hw'';subst hw2;have HCE := Lib.hid (HCE.out.kept1 bq);have HBI := Lib.hid (HBI.out.kept1 bq);have HB6 := Lib.hid (bnext HB6.out bq);have r1 := (HCE.out.2 yy hy1).1;have f1 := (HCE.out.2 yy hy1).2;clear bq NA;go_wp2;have hzb := byte_of z HZ.out.1 i;rw [hsh] at hzb;rw [hzb, ← HBY.out];have hgb2 := HG2.out;exact ⟨⟨i + 1, by go_num, by omega, Lib.hid (by rw [show 3 + 12 * k + 4 * j + (i + 1) = yy + 1 by have := HYY.out; have := HAA.out; omega]; exact (HCE.out.set hy1 _).congr fun p _ => fkV_put _ _ p), Lib.hid (HBI.out.other (by show gb ≠ ge + 1; omega) _), Lib.hid (HB6.out.setCell (p := ⟨gb, yy, none⟩) hgw _)⟩, by simp [intOf]; omega⟩
         ·obtain rfl : i = 4 := by omega
          have ti : decide (((4 : Nat) : Int) < 4) = false := by decide
          go_wp2;exact ⟨⟨j + 1, by go_num, by omega, Lib.hid (by rw [show 3 + 12 * k + 4 * (j + 1) = 3 + 12 * k + 4 * j + 4 by omega]; exact HC6.out), HBI, HB6⟩, by simp [intOf]; omega⟩
       ·obtain rfl : j = 3 := by omega
        have tj : decide (((3 : Nat) : Int) < 3) = false := by decide
        go_wp2;exact ⟨⟨k + 1, by go_num, by omega, Lib.hid (by rw [show 3 + 12 * (k + 1) = 3 + 12 * k + 4 * 3 by omega]; exact HC6.out), HB6⟩, by simp [intOf]; omega⟩
     ·obtain rfl : k = l.length := by omega
      have TX := fk_text (nodeL_length _ h10) (HC4.out.congr fun p hp => fkV_end h10 hp);go_wp2
      go_ret2
      exact ⟨rfl, HB4.out⟩
 ·rw [if_neg hok, if_neg hok]
  rw [decide_eq_false hok] at VA;clear c3 c4 hv
  go_enter Tryz.func10, Tryz.ntmps10
  go_wp2_with fail
  refine VA.out.mono ?_; rintro e w1 ⟨rfl, b1⟩;go_wp2
  go_ret2
  exact ⟨rfl, b1⟩
open Go.RowKit
theorem ofInt64 (n : Nat) (h : n < 2 ^ 62) : (BitVec.ofInt 64 (n : Int)).toNat = n := by
 rw [BitVec.ofInt_natCast, BitVec.toNat_ofNat]; omega
theorem or_i64 (n m : Nat) (hn : n < 2 ^ 62) (hm : m < 2 ^ 62) : bits .or .i64 (n : Int) (m : Int) = ((n ||| m : Nat) : Int) := by
 show IntKind.i64.wrap ((BitVec.ofInt 64 (n : Int) ||| BitVec.ofInt 64 (m : Int)).toNat : Int) = _
 rw [BitVec.toNat_or, ofInt64 n hn, ofInt64 m hm];have h := Nat.or_lt_two_pow hn hm;exact IntWalk.i64_in _ (by omega)
theorem or_stepI (n k b : Nat) (hk : k < 4) (hn : n < 256 ^ k) (hb : b < 256) : bits .or .i64 (n : Int) (wrap64 (wrap64 (b : Int) * 2 ^ (8 * k))) = ((n + 256 ^ k * b : Nat) : Int) := by
 have e : (256 : Nat) ^ k = 2 ^ (8 * k) := by rw [Nat.pow_mul]
 have h1 : wrap64 (b : Int) = b := IntWalk.wrap64_in _ (by omega);have hp : (2 : Nat) ^ (8 * k) ≤ 2 ^ 24 := Nat.pow_le_pow_right (by decide) (by omega)
 have hm : 2 ^ (8 * k) * b < 2 ^ 62 := by
  have h1 : 2 ^ (8 * k) * b ≤ 2 ^ 24 * 255 := Nat.mul_le_mul hp (by omega);omega
 have h2 : wrap64 ((b : Int) * 2 ^ (8 * k)) = ((2 ^ (8 * k) * b : Nat) : Int) := by
  have e2 : (b : Int) * 2 ^ (8 * k) = ((2 ^ (8 * k) * b : Nat) : Int) := by
   rw [Int.natCast_mul, Int.natCast_pow, Int.mul_comm]; rfl
  rw [e2];generalize 2 ^ (8 * k) * b = m at hm;exact IntWalk.wrap64_in _ (by omega)
 have hn' : n < 2 ^ (8 * k) := by rw [← e]; exact hn
 rw [h1, h2, or_i64 n _ (by omega) hm, Nat.or_comm, ← Nat.two_pow_add_eq_or_of_lt hn' b, e, Nat.add_comm]
theorem fknumber_any (s : ByteArray) (hs : s.size ≤ maxLen) (a : Nat) (ha : a + 4 ≤ s.size) (w : World) :
 Calls Tryz.prog 41 #[.string s, .int .i64 (a : Int)] w fun e w' => e = .returned (.int .i64 (ubyte s a 4)) ∧ w = w' := by
 unfold maxLen at hs;unfold ubyte
 go_enter Tryz.func41, Tryz.ntmps41
 go_wp2
 go_loop [5, 7] (fun n i => ∃ k : Nat, k ≤ 4 ∧ i = .int .i64 (k : Int) ∧ n = .int .i64 (leN (fieldAt s a k) : Int)) (fun _ i => 4 - (intOf i).toNat)
 case atStart => exact ⟨0, Nat.zero_le _, rfl, rfl⟩
 case round =>
  obtain ⟨k, hk, rfl, rfl⟩ := hrel;by_cases hlt : k < 4
  ·have h1 := leN_snoc s a k (by omega)
   have h2 := leN_lt (fieldAt s a k);rw [fieldAt_length s a k (by omega)] at h2;have h3 := or_stepI _ k (s[a + k]'(by omega)).toNat (by omega) h2 (UInt8.toNat_lt _);rw [← h1] at h3;have H3 := Lib.hid h3;clear h1 h2 h3;go_wp2;exact ⟨⟨k + 1, by omega, by go_num, by rw [H3.out]⟩, by simp [intOf]; omega⟩
  ·obtain rfl : k = 4 := by omega
   go_wp2;go_ret;exact ⟨rfl, rfl⟩
def decL (s : ByteArray) : List Ent := ((decN s).map Prod.fst).getD []
def decF (s : ByteArray) : Bool := ((decN s).map Prod.snd).getD false
def decE (s : ByteArray) : Int := if (decN s).isSome then 0 else 80
theorem dec_no {s : ByteArray} (h : ¬ IsNode s) : decL s = [] ∧ decF s = false ∧ decE s = 80 := by unfold decL decF decE decN; rw [if_neg h]; exact ⟨rfl, rfl, rfl⟩
theorem dec_yes {s : ByteArray} (h : IsNode s) : decL s = entsN s (byteN s 2) ∧ decF s = leafN s ∧ decE s = 0 := by unfold decL decF decE decN; rw [if_pos h]; exact ⟨rfl, rfl, rfl⟩
theorem byteN_at (s : ByteArray) (i : Nat) (h : i < s.size) : byteN s i = (s[i]).toNat := by
 unfold byteN;rw [show s.data.toList[i]? = some s[i] from by rw [List.getElem?_eq_getElem (by simpa using h)]; rfl]; rfl
theorem ubyte_small (s : ByteArray) (a : Nat) : 0 ≤ ubyte s a 4 ∧ ubyte s a 4 < 4294967296 := by
 unfold ubyte;have h := leN_lt (fieldAt s a 4)
 have h2 : (fieldAt s a 4).length ≤ 4 := by unfold fieldAt; rw [List.length_take]; omega
 have h3 : 256 ^ (fieldAt s a 4).length ≤ 256 ^ 4 := Nat.pow_le_pow_right (by decide) h2
 have h4 : (256 : Nat) ^ 4 = 4294967296 := by decide
 omega
theorem entsN_fit (s : ByteArray) (n : Nat) : fitE (entsN s n) := fun e he => by
 obtain ⟨i, _, rfl⟩ := List.mem_map.1 he;have h1 := ubyte_small s (3 + 12 * i);have h2 := ubyte_small s (7 + 12 * i);have h3 := ubyte_small s (11 + 12 * i);exact ⟨⟨by show -9223372036854775808 ≤ ubyte s (3 + 12 * i) 4; omega, by show ubyte s (3 + 12 * i) 4 ≤ _; omega⟩, ⟨by show -9223372036854775808 ≤ ubyte s (7 + 12 * i) 4; omega, by show ubyte s (7 + 12 * i) 4 ≤ _; omega⟩, ⟨by show -9223372036854775808 ≤ ubyte s (11 + 12 * i) 4; omega, by show ubyte s (11 + 12 * i) 4 ≤ _; omega⟩⟩
theorem fkdec_any (s : ByteArray) (hs : s.size ≤ maxLen) (w : World) :
 Calls Tryz.prog 12 #[.string s] w fun e w' => ∃ v, e = .returned (.tuple #[v, .bool (decF s), .int .i64 (decE s)]) ∧ EntsAt w.heap.size v (decL s) w' ∧ Below w.heap.size w w' := by
 by_cases h128 : s.size = 128
 ·have d0 : ((s.size : Int) == 128) = true := by rw [beq_iff_eq]; omega
  have hb2 := byteN_at s 2 (by omega);have hb1 := byteN_at s 1 (by omega);by_cases h10 : byteN s 2 ≤ 10
  ·obtain ⟨n, hn⟩ : ∃ n, byteN s 2 = n := ⟨_, rfl⟩
   have hn2 : s[2].toNat = n := by rw [← hb2, hn]
   have d1 : decide ((10 : Int) < (s[2].toNat : Int)) = false := decide_eq_false (by omega)
   have hnn : (s[2].toNat : Int) = (n : Int) := by omega
   obtain ⟨lf, hlf⟩ : ∃ lf, leafN s = lf := ⟨_, rfl⟩
   have d2 : ((s[1].toNat : Int) == 1) = lf := by
    rw [← hlf]; unfold leafN; rw [hb1, Bool.eq_iff_iff, beq_iff_eq, beq_iff_eq]; omega
   have EN := Lib.hid fun v W hv => fkenc_any (entsN s n) (entsN_fit s n) lf v W hv
   have HFIN : Hid (decL s = (if encE (entsN s n) lf = 0 ∧ encT (entsN s n) lf = s then entsN s n else []) ∧ decF s = (if encE (entsN s n) lf = 0 ∧ encT (entsN s n) lf = s then lf else false) ∧ decE s = (if encE (entsN s n) lf = 0 ∧ encT (entsN s n) lf = s then 0 else 80)) := Lib.hid (by
    by_cases hk : IsNode s
    ·obtain ⟨e1, e2, e3⟩ := dec_yes hk
     have k1 := hk.2.2.1;have k2 := isNode_eq hk;rw [hn, hlf] at k1 k2
     have hc : encE (entsN s n) lf = 0 ∧ encT (entsN s n) lf = s := by unfold encE encT; rw [if_pos k1, if_pos k1]; exact ⟨rfl, k2⟩
     rw [if_pos hc, if_pos hc, if_pos hc, e1, e2, e3, hn, hlf];exact ⟨rfl, rfl, rfl⟩
    ·obtain ⟨e1, e2, e3⟩ := dec_no hk
     have hc : ¬ (encE (entsN s n) lf = 0 ∧ encT (entsN s n) lf = s) := by
      rintro ⟨q1, q2⟩;unfold encE at q1;by_cases k1 : NodeOk (entsN s n) lf
      ·unfold encT at q2
       rw [if_pos k1] at q2;refine hk ⟨h128, h10, ?_, ?_⟩
       ·rw [hn, hlf]; exact k1
       ·rw [hn, hlf, ← nodeB_list, q2]
      ·rw [if_neg k1] at q1; omega
     rw [if_neg hc, if_neg hc, if_neg hc]
     exact ⟨e1, e2, e3⟩)
   have hnl : n ≤ 10 := by omega
   have NA := Lib.hid fun (k j : Nat) (hk : k < n) (hj : j < 3) W => fknumberAt_any (k : Int) (j : Int) ⟨by omega, by omega⟩ ⟨by omega, by omega⟩ W;have NB := Lib.hid fun (a : Nat) (ha : a + 4 ≤ 128) W => fknumber_any s hs a (by omega) W;have HEN := Lib.hid fun k => entsN_succ s k;have HLN := Lib.hid fun k => entsN_length s k;have HS := Lib.hid hs;unfold maxLen at hs;clear hb1 hb2 hlf hn hn2 h10
   go_enter Tryz.func12, Tryz.ntmps12
   go_wp2
   go_loopw [2, 19] (fun v q wr => ∃ k : Nat, q = .int .i64 (k : Int) ∧ k ≤ n ∧ Hid (EntsAt w.heap.size v (entsN s k) wr) ∧ Hid (Below w.heap.size w wr)) (fun _ q _ => n - (intOf q).toNat)
   case atStart => exact ⟨0, rfl, by omega, Lib.hid (World.ownsRow_nil _ _ _ _), Lib.hid (Below.refl _ _)⟩
   case round =>
    obtain ⟨k, rfl, hk, HR, HB⟩ := hrel;by_cases hlt : k < n
    ·have N0 := Lib.hid (by have := fun W => NA.out k 0 hlt (by omega) W; rw [show 3 + 12 * (k : Int) + 4 * ((0 : Nat) : Int) = ((3 + 12 * k : Nat) : Int) by omega] at this; exact this : ∀ W, Calls Tryz.prog 38 #[.int .i64 (k : Int), .int .i64 0] W fun e w' => e = .returned (.int .i64 ((3 + 12 * k : Nat) : Int)) ∧ W = w')
     have N1 := Lib.hid (by have := fun W => NA.out k 1 hlt (by omega) W; rw [show 3 + 12 * (k : Int) + 4 * ((1 : Nat) : Int) = ((7 + 12 * k : Nat) : Int) by omega] at this; exact this : ∀ W, Calls Tryz.prog 38 #[.int .i64 (k : Int), .int .i64 1] W fun e w' => e = .returned (.int .i64 ((7 + 12 * k : Nat) : Int)) ∧ W = w');have N2 := Lib.hid (by have := fun W => NA.out k 2 hlt (by omega) W; rw [show 3 + 12 * (k : Int) + 4 * ((2 : Nat) : Int) = ((11 + 12 * k : Nat) : Int) by omega] at this; exact this : ∀ W, Calls Tryz.prog 38 #[.int .i64 (k : Int), .int .i64 2] W fun e w' => e = .returned (.int .i64 ((11 + 12 * k : Nat) : Int)) ∧ W = w');have M0 := Lib.hid (NB.out (3 + 12 * k) (by omega));have M1 := Lib.hid (NB.out (7 + 12 * k) (by omega));have M2 := Lib.hid (NB.out (11 + 12 * k) (by omega));have HSU := Lib.hid (HEN.out k);have HLE := Lib.hid (HLN.out k);unfold entN at HSU;generalize ubyte s (3 + 12 * k) 4 = ya at *;generalize ubyte s (7 + 12 * k) 4 = yp at *;generalize ubyte s (11 + 12 * k) 4 = yz at *;generalize 3 + 12 * k = a0 at *;generalize 7 + 12 * k = a1 at *;generalize 11 + 12 * k = a2 at *;generalize entsN s k = LK at *;go_wp2_with fail
     refine (N0.out _).mono ?_; rintro e w' ⟨rfl, rfl⟩;go_wp2_with fail
     refine (M0.out _).mono ?_; rintro e w' ⟨rfl, rfl⟩;go_wp2_with fail
     refine (N1.out _).mono ?_; rintro e w' ⟨rfl, rfl⟩;go_wp2_with fail
     refine (M1.out _).mono ?_; rintro e w' ⟨rfl, rfl⟩;go_wp2_with fail
     refine (N2.out _).mono ?_; rintro e w' ⟨rfl, rfl⟩;go_wp2_with fail
     refine (M2.out _).mono ?_; rintro e w' ⟨rfl, rfl⟩;clear N0 N1 N2 M0 M1 M2;have hz := HB.out.size
     go_wp2_with (at_builtin; refine wpList_app3 rfl _ _ 22 31 rfl Tryz.underlying22 entry_info w.heap.size _ LK ⟨ya, yp, yz⟩ rfl (HR.out.alloc _) wr rfl wr.heap.size rfl rfl (by have := HLE.out; omega) (by rw [size_alloc]; omega) ?_)
     intro v' w4 h4 g4;have b4 : Below w.heap.size (wr.alloc (.cells #[.int .i64 ya, .int .i64 yp, .int .i64 yz] 31)) w4 := below_of_row (HR.out.alloc _) g4 (by rw [size_alloc]; omega);have HR4 : Hid (EntsAt w.heap.size v' (entsN s (k + 1)) w4) := Lib.hid (by rw [HSU.out]; exact ents_snoc h4);have HB4 : Hid (Below w.heap.size w w4) := Lib.hid ((balloc HB.out _).trans b4);clear h4 g4 b4 HR HB;go_wp2;exact ⟨⟨k + 1, by go_num, by omega, HR4, HB4⟩, by simp [intOf]; omega⟩
    ·obtain rfl : k = n := by omega
     have hz := HB.out.size;have HI := Lib.hid (entsAt_in HR.out);obtain ⟨va, vc, hvs, -⟩ := shape_of HR.out;subst hvs;have EN1 := Lib.hid (EN.out _ _ HI.out);have HE2 : Hid (encE (entsN s k) lf = 0 ∨ encE (entsN s k) lf = 2) := Lib.hid (by unfold encE; split <;> simp);clear EN HI NA NB HEN HLN;generalize encE (entsN s k) lf = EE at *;generalize encT (entsN s k) lf = ET at *;generalize entsN s k = LK at *;by_cases hq : EE = 0 ∧ ET = s
     ·have HX : Hid (decL s = LK ∧ decF s = lf ∧ decE s = 0) := Lib.hid (by have h := HFIN.out; rw [if_pos hq, if_pos hq, if_pos hq] at h; exact h)
      obtain ⟨rfl, hET⟩ := hq
      have t2 : (ET.toList == s.toList) = true := by rw [beq_iff_eq, hET]
      clear hET HE2 HFIN;go_wp2_with fail
      refine EN1.out.mono ?_; rintro e w5 ⟨rfl, b5⟩;have HR5 := Lib.hid (row_kept HR.out b5);have HB5 := Lib.hid (bnext HB.out b5);clear b5 EN1;go_wp2;go_ret3;obtain ⟨q1, q2, q3⟩ := HX.out;exact ⟨_, by rw [q2, q3]; rfl, by rw [q1]; exact HR5.out, HB5.out⟩
     ·have HX : Hid (decL s = [] ∧ decF s = false ∧ decE s = 80) := Lib.hid (by have h := HFIN.out; rw [if_neg hq, if_neg hq, if_neg hq] at h; exact h)
      by_cases hE : EE = 0
      ·subst hE
       have t2 : (ET.toList == s.toList) = false := by rw [beq_eq_false_iff_ne]; exact fun h => hq ⟨rfl, (str_iff _ _).1 h⟩
       clear hq HE2 HFIN;go_wp2_with fail
       refine EN1.out.mono ?_; rintro e w5 ⟨rfl, b5⟩;have HB5 := Lib.hid (bnext HB.out b5);clear b5 EN1;go_wp2;go_ret3;obtain ⟨q1, q2, q3⟩ := HX.out;exact ⟨_, by rw [q2, q3]; rfl, by rw [q1]; exact World.ownsRow_nil _ _ _ _, HB5.out⟩
      ·obtain rfl : EE = 2 := by have := HE2.out; omega
       clear hq HE2 hE HFIN;go_wp2_with fail
       refine EN1.out.mono ?_; rintro e w5 ⟨rfl, b5⟩;have HB5 := Lib.hid (bnext HB.out b5);clear b5 EN1;go_wp2;go_ret3;obtain ⟨q1, q2, q3⟩ := HX.out;exact ⟨_, by rw [q2, q3]; rfl, by rw [q1]; exact World.ownsRow_nil _ _ _ _, HB5.out⟩
  ·have d1 : decide ((10 : Int) < (s[2].toNat : Int)) = true := decide_eq_true (by omega)
   obtain ⟨e1, e2, e3⟩ := dec_no (s := s) fun h => h10 h.2.1;rw [e1, e2, e3]
   go_enter Tryz.func12, Tryz.ntmps12
   go_wp2;go_ret3;exact ⟨_, rfl, World.ownsRow_nil _ _ _ _, Below.refl _ _⟩
 ·have d0 : ((s.size : Int) == 128) = false := by rw [beq_eq_false_iff_ne]; omega
  obtain ⟨e1, e2, e3⟩ := dec_no (s := s) fun h => h128 h.1;rw [e1, e2, e3];clear e1 e2 e3;unfold maxLen at hs
  go_enter Tryz.func12, Tryz.ntmps12
  go_wp2;go_ret3;exact ⟨_, rfl, World.ownsRow_nil _ _ _ _, Below.refl _ _⟩
end Go.Proofs.YtknefoemgifbfaaGreat
