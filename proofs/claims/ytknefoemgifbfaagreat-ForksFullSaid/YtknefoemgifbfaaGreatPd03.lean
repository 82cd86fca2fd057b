import Derived.Test.YtknefoemgifbfaaGreatPd22
import Derived.StillTailTactics
import Derived.Shelf.Abstract
set_option linter.unusedVariables false
set_option linter.unusedSimpArgs false
set_option linter.constructorNameAsVariable false
set_option maxRecDepth 100000
set_option maxHeartbeats 16000000
namespace Go.Proofs.YtknefoemgifbfaaGreat
open Go.RowKit
def zerosF (n : Nat) : List UInt8 := List.replicate n 0
theorem zerosF_len (n : Nat) : (zerosF n).length = n := List.length_replicate
theorem fz_info : (Tryz.prog.info? 5).map (fun i => (i.zero, i.size, i.bytes)) = some (some (.int .u8 0), 1, 1) := by kernel_rfl
theorem fz_made (n : Nat) (hn : n ≤ 4096) (w : World) :
 (Instr.makeSlice 97 (.int .i64 n) (.int .i64 n)).run Tryz.prog w = .ok (.slice (some ⟨w.heap.size, 0, none⟩) n n) (w.alloc (.cells (madeCells #[.int .u8 0] n) 5)) := by
 obtain ⟨i, hi, hz, hs, hb⟩ := info_parts fz_info;have h := run_make (P := Tryz.prog) w 97 5 i (.int .u8 0) Tryz.underlying97 hi hz .i64 .i64 n n (by omega) (Int.le_refl _) (by rw [hb]; omega) (by omega)
 simpa [hs, Value.cells] using h
theorem fz_cell (z : Value) (n j : Nat) (h : j < n) : (madeCells #[z] n)[j]? = some z := by
 have e : (madeCells #[z] n)[j]? = (madeCells #[z] n).toList[j]? := by simp
 rw [e, toList_madeCells_one]; simp [h]
theorem fz_text (w : World) (g n cap : Nat) (h : CellsAt g n (fun _ => .int .u8 0) w) :
 (convert 97 9 (.slice (some ⟨g, 0, none⟩) n cap)).run Tryz.prog w = .ok (.string (bs (zerosF n))) w := by
 have h := run_convert_bytes_back (P := Tryz.prog) w 97 9 5 ⟨g, 0, none⟩ cap (zerosF n) Tryz.underlying97 Tryz.underlying5 Tryz.underlying9 fun j hj => by
  have hj : j < n := by rw [zerosF_len] at hj; exact hj
  rw [add_at, Nat.zero_add, (h.2 j hj).1]
  have e : (zerosF n)[j]'(by rw [zerosF_len]; exact hj) = 0 := by unfold zerosF; exact List.getElem_replicate _
  rw [e]; rfl
 rw [zerosF_len] at h;exact h
open Go.RowKit
def zblk : ByteArray := bs (zerosF 128)
theorem zblk_size : zblk.size = 128 := by unfold zblk; rw [bs_size, zerosF_len]
theorem lblock0_any (w : World) : Calls Tryz.prog 45 #[.int .u8 0] w fun e w' => e = .returned (.string zblk) ∧ Below w.heap.size w w' := by
 have hm : (Instr.makeSlice 97 (.int .i64 128) (.int .i64 128)).run Tryz.prog w = .ok (.slice (some ⟨w.heap.size, 0, none⟩) 128 128) (w.alloc (.cells (madeCells #[.int .u8 0] 128) 5)) := fz_made 128 (by omega) w;have hc : CellsAt w.heap.size 128 (fun _ => .int .u8 0) (w.alloc (.cells (madeCells #[.int .u8 0] 128) 5)) := CellsAt.alloc_new _ _ _ _ _ fun j hj => fz_cell _ _ _ hj;have hb0 : Below w.heap.size w (w.alloc (.cells (madeCells #[.int .u8 0] 128) 5)) := balloc1 _ _;generalize (w.alloc (.cells (madeCells #[.int .u8 0] 128) 5)) = w1 at *
 go_enter Tryz.func45, Tryz.ntmps45
 go_wp2
 go_loopw [4] (fun q wr => ∃ i : Nat, q = .int .i64 i ∧ i ≤ 128 ∧ CellsAt w.heap.size 128 (fun _ => .int .u8 0) wr ∧ Below w.heap.size w wr) (fun q _ => 128 - (intOf q).toNat)
 case atStart => exact ⟨0, rfl, Nat.zero_le _, hc, hb0⟩
 case round =>
  clear hc hb0;obtain ⟨i, rfl, hi, hc, hbr⟩ := hrel;by_cases hlt : i < 128
  ·obtain ⟨q1, q2⟩ := hc.2 i hlt
   have HC : Hid (CellsAt w.heap.size 128 (fun _ => .int .u8 0) (wr.setCell ⟨w.heap.size, i, none⟩ (.int .u8 0))) := Lib.hid ((hc.set hlt (.int .u8 0)).congr fun j hj => by unfold upd; split <;> rfl);clear hc;go_wp2;exact ⟨⟨i + 1, by go_num, by omega, HC, hbr.setCell (Nat.le_refl _) _⟩, by simp [intOf]; omega⟩
  ·obtain rfl : i = 128 := by omega
   have hr := fz_text wr w.heap.size 128 128 hc;clear hc hm;go_wp2;go_ret;exact ⟨rfl, hbr⟩
def dskF (d : List Ch) : Nat → ByteArray := d.foldl (fun F c => if 0 ≤ c.1 ∧ c.1 < 4096 then upd F c.1.toNat c.2 else F) (fun _ => zblk)
theorem dskF_snoc (d : List Ch) (c : Ch) : dskF (d ++ [c]) = if 0 ≤ c.1 ∧ c.1 < 4096 then upd (dskF d) c.1.toNat c.2 else dskF d := by unfold dskF; rw [List.foldl_append]; rfl
theorem dskF_size_from : ∀ (d : List Ch) (F : Nat → ByteArray), (∀ k, (F k).size ≤ 1000) → (∀ c ∈ d, c.2.size ≤ 1000) → ∀ k, ((d.foldl (fun F c => if 0 ≤ c.1 ∧ c.1 < 4096 then upd F c.1.toNat c.2 else F) F) k).size ≤ 1000
 | [], F, hF, _, k => hF k
 | c :: d, F, hF, h, k => by
   rw [List.foldl_cons];refine dskF_size_from d _ (fun k => ?_) (fun x hx => h x (List.mem_cons_of_mem _ hx)) k;split
   ·unfold upd
    split
    ·exact h c (List.mem_cons_self ..)
    ·exact hF k
   ·exact hF k
theorem dskF_size {d : List Ch} (h : ∀ c ∈ d, c.2.size ≤ 1000) : ∀ k, (dskF d k).size ≤ 1000 := dskF_size_from d _ (fun k => by show zblk.size ≤ 1000; rw [zblk_size]; omega) h
abbrev strF (F : Nat → ByteArray) : Nat → Value := fun i => .string (F i)
theorem strF_upd (F : Nat → ByteArray) (i : Nat) (s : ByteArray) : upd (strF F) i (.string s) = strF (upd F i s) := by
 funext j; by_cases h : j = i
 ·subst h; rw [upd_same]; show _ = Value.string _; rw [upd_same]
 ·rw [upd_other _ h]; show _ = Value.string _; rw [upd_other _ h]
theorem lstrings_made (n : Nat) (hn : n ≤ 4096) (w : World) :
 (Instr.makeSlice 40 (.int .i64 n) (.int .i64 n)).run Tryz.prog w = .ok (.slice (some ⟨w.heap.size, 0, none⟩) n n) (w.alloc (.cells (madeCells #[.string ⟨#[]⟩] n) 9)) := by
 have string_info : (Tryz.prog.info? 9).map (fun i => (i.zero, i.size, i.bytes)) = some (some (.string ⟨#[]⟩), 1, 16) := by kernel_rfl
 obtain ⟨i, hi, hz, hs, hb⟩ := info_parts string_info;have h := run_make (P := Tryz.prog) w 40 9 i (.string ⟨#[]⟩) Tryz.underlying40 hi hz .i64 .i64 n n (by omega) (Int.le_refl _) (by rw [hb]; omega) (by omega)
 simpa [hs, Value.cells] using h
structure DskAt (g : Nat) (F : Nat → ByteArray) (w : World) : Prop where
 c : CellsAt g 4096 (strF F) w
 t : TyAt g 9 w
theorem DskAt.kept1 {g : Nat} {F : Nat → ByteArray} {w w' : World} (h : DskAt g F w) (b : Below w.heap.size w w') : DskAt g F w' := ⟨h.c.kept1 b, h.t.eq_block (b.block g h.c.1)⟩
theorem DskAt.eq_block {g : Nat} {F : Nat → ByteArray} {w w' : World} (h : DskAt g F w) (hs : w.heap.size ≤ w'.heap.size) (e : w'.heap[g]? = w.heap[g]?) : DskAt g F w' := ⟨h.c.eq_block hs e, h.t.eq_block e⟩
theorem DskAt.set {g : Nat} {F : Nat → ByteArray} {w : World} (h : DskAt g F w) {i : Nat} (hi : i < 4096) (s : ByteArray) : DskAt g (upd F i s) (w.setCell ⟨g, i, none⟩ (.string s)) :=
 ⟨(h.c.set hi (.string s)).congr fun j _ => congrFun (strF_upd F i s) j, h.t.set _ _⟩
theorem str_upto (i : Nat) (hi : i < 4096) {g : Nat} {w : World} (h : CellsAt g 4096 (fun j => if j < i then .string zblk else .string ⟨#[]⟩) w) : CellsAt g 4096 (fun j => if j < i + 1 then .string zblk else .string ⟨#[]⟩) (w.setCell ⟨g, i, none⟩ (.string zblk)) :=
 (h.set hi (.string zblk)).congr fun j hj => by
  by_cases e : j = i
  ·subst e; rw [upd_same, if_pos (Nat.lt_succ_self j)]
  ·rw [upd_other _ e]
   by_cases e2 : j < i
   ·rw [if_pos e2, if_pos (by omega)]
   ·rw [if_neg e2, if_neg (by omega)]
theorem lblocks_any (d : List Ch) (hd : d.length ≤ 1000) (hfit : ∀ c ∈ d, I64 c.1) (bad : Int) (v : Value) (w : World) (hv : ChgsIn v d w) :
 Calls Tryz.prog 18 #[.agg #[v, .int .i64 bad]] w fun e w' => ∃ g, e = .returned (.slice (some ⟨g, 0, none⟩) 4096 4096) ∧ w.heap.size ≤ g ∧ DskAt g (dskF d) w' ∧ Below w.heap.size w w' := by
 obtain ⟨ad, cap, rfl, hcap1, hcap2, hcell⟩ := hv.open;have hb0 := balloc1 w (.cells #[.slice ad d.length cap, .int .i64 bad] 38);have hk0 := Blk.new #[.slice ad d.length cap, .int .i64 bad] 38 w;have HB := Lib.hid fun W => lblock0_any W;have hz0 := size_alloc w (.cells #[.slice ad d.length cap, .int .i64 bad] 38);have HV := Lib.hid hv;generalize hw1 : w.alloc (.cells #[.slice ad d.length cap, .int .i64 bad] 38) = w1 at *;have HC := Lib.hid hcell;have HF := Lib.hid hfit;clear hv hcell hfit;obtain ⟨Z, hZ⟩ : ∃ Z, zblk = Z := ⟨_, rfl⟩;rw [hZ] at HB
 go_enter Tryz.func18, Tryz.ntmps18
 go_wp2_with fail
 refine (HB.out _).mono ?_; rintro e w2 ⟨rfl, b2⟩;have hm : (Instr.makeSlice 40 (.int .i64 4096) (.int .i64 4096)).run Tryz.prog w2 = .ok (.slice (some ⟨w2.heap.size, 0, none⟩) 4096 4096) (w2.alloc (.cells (madeCells #[.string ⟨#[]⟩] 4096) 9)) := lstrings_made 4096 (Nat.le_refl _) w2;have hb3 := balloc1 w2 (.cells (madeCells #[.string ⟨#[]⟩] 4096) 9)
 have hc3 : CellsAt w2.heap.size 4096 (fun j => if j < 0 then .string zblk else .string ⟨#[]⟩) (w2.alloc (.cells (madeCells #[.string ⟨#[]⟩] 4096) 9)) := CellsAt.alloc_new _ _ _ _ _ fun j hj => by rw [if_neg (by omega)]; exact fz_cell _ _ _ hj
 have ht3 : TyAt w2.heap.size 9 (w2.alloc (.cells (madeCells #[.string ⟨#[]⟩] 4096) 9)) := ⟨_, _, Blk.new _ _ _⟩;have HBW := Lib.hid (bnext (bnext hb0 b2) hb3);have HK := Lib.hid (hk0.kept1 (bnext b2 hb3));have hs2 := b2.size;have hs1 := hb0.size;obtain ⟨W3, hW3⟩ : ∃ W3, w2.alloc (.cells (madeCells #[.string ⟨#[]⟩] 4096) 9) = W3 := ⟨_, rfl⟩;rw [hW3] at hc3 ht3 HBW HK hm
 have hs3 : W3.heap.size = w2.heap.size + 1 := by rw [← hW3]; exact size_alloc _ _
 rw [hZ] at hc3
 have HD0 : Hid (∀ k, dskF (d.take 0) k = Z) := Lib.hid fun k => by rw [← hZ]; rfl
 have HCS : Hid (∀ i, i < 4096 → ∀ {g : Nat} {w : World}, CellsAt g 4096 (fun j => if j < i then .string Z else .string ⟨#[]⟩) w → CellsAt g 4096 (fun j => if j < i + 1 then .string Z else .string ⟨#[]⟩) (w.setCell ⟨g, i, none⟩ (.string Z))) := Lib.hid fun i hi g w h => by subst hZ; exact str_upto i hi h
 clear hb0 hk0 hw1 hb3 b2 hW3 HB hZ;go_wp2
 go_loopw [5] (fun q wr => ∃ i : Nat, q = .int .i64 i ∧ i ≤ 4096 ∧ CellsAt w2.heap.size 4096 (fun j => if j < i then .string Z else .string ⟨#[]⟩) wr ∧ TyAt w2.heap.size 9 wr ∧ Below w.heap.size w wr ∧ Blk w.heap.size #[.slice ad d.length cap, .int .i64 bad] 38 wr) (fun q _ => 4096 - (intOf q).toNat)
 case atStart => exact ⟨0, rfl, Nat.zero_le _, hc3, ht3, HBW.out, HK.out⟩
 case round =>
  clear hc3 ht3 HBW HK hm;obtain ⟨i, rfl, hi, hc, ht, hbr, hk⟩ := hrel;by_cases hlt : i < 4096
  ·obtain ⟨q1, q2⟩ := hc.2 i hlt
   have HC2 := Lib.hid (HCS.out i hlt hc);have HT2 := Lib.hid (ht.set ⟨w2.heap.size, i, none⟩ (.string Z));have HB2 := Lib.hid (hbr.setCell (p := ⟨w2.heap.size, i, none⟩) (by show w.heap.size ≤ w2.heap.size; omega) (.string Z));have HK2 := Lib.hid (hk.other (p := ⟨w2.heap.size, i, none⟩) (by show w2.heap.size ≠ w.heap.size; omega) (.string Z));dsimp only at q1;rw [if_neg (Nat.lt_irrefl i)] at q1;clear hc ht hbr hk;go_wp2;exact ⟨⟨i + 1, by go_num, by omega, HC2.out, HT2.out, HB2.out, HK2.out⟩, by simp [intOf]; omega⟩
  ·obtain rfl : i = 4096 := by omega
   have HD : Hid (DskAt w2.heap.size (dskF (d.take 0)) wr) := Lib.hid ⟨hc.congr fun j hj => by rw [if_pos hj]; show _ = Value.string _; rw [HD0.out], ht⟩;have HBR := Lib.hid hbr;have HKR := Lib.hid hk;obtain ⟨wA, hA⟩ : ∃ x, x = wr := ⟨_, rfl⟩;subst hA;clear hc ht hbr hk hlt hi;go_wp2
   go_loopw [6] (fun q wr => ∃ i : Nat, q = .int .i64 i ∧ i ≤ d.length ∧ DskAt w2.heap.size (dskF (d.take i)) wr ∧ Below w.heap.size w wr ∧ Blk w.heap.size #[.slice ad d.length cap, .int .i64 bad] 38 wr) (fun q _ => d.length - (intOf q).toNat)
   case atStart => exact ⟨0, rfl, Nat.zero_le _, HD.out, HBR.out, HKR.out⟩
   case round =>
    clear HD HBR HKR;obtain ⟨i, rfl, hi, hdk, hbr, hk⟩ := hrel;have c0 := hk.cell 0;simp only [List.getElem?_toArray, List.getElem?_cons_zero] at c0;have HDK := Lib.hid hdk;have HBR := Lib.hid hbr;have HKR := Lib.hid hk;by_cases hlt : i < d.length
    ·obtain ⟨g, o, rfl, hg, hcc⟩ := HC.out (by omega)
     obtain ⟨e1, e2⟩ := hcc i hlt;have hbw := hbr.cell (p := ⟨g, o + i * 2, none⟩) hg;have hbw2 := hbr.cell (p := ⟨g, o + i * 2 + 1, none⟩) hg;rw [e1] at hbw;rw [e2] at hbw2;have hI := HF.out d[i] (List.getElem_mem hlt)
     have hsn : dskF (d.take (i + 1)) = if 0 ≤ d[i].1 ∧ d[i].1 < 4096 then upd (dskF (d.take i)) d[i].1.toNat d[i].2 else dskF (d.take i) := by rw [List.take_succ_eq_append_getElem hlt, dskF_snoc]
     obtain ⟨b, hb⟩ : ∃ b, d[i].1 = b := ⟨_, rfl⟩;obtain ⟨s, hs⟩ : ∃ s, d[i].2 = s := ⟨_, rfl⟩;rw [hb] at hbw hI hsn;rw [hs] at hbw2 hsn;have HSN := Lib.hid hsn;clear hsn hcc e1 e2 hb hs hdk hk;by_cases h0 : 0 ≤ b
     ·obtain ⟨n, rfl⟩ := Int.eq_ofNat_of_zero_le h0
      have g0 : decide ((0 : Int) ≤ (n : Int)) = true := decide_eq_true (by omega);by_cases h1 : n < 4096
      ·have bd : Below wr.heap.size wr wr.drew := (Below.refl _ _).drew
       have HDR := Lib.hid (HDK.out.kept1 bd);have HBD := Lib.hid (hbr.trans (bd.mono hbr.size));have HKD := Lib.hid (HKR.out.kept1 bd);obtain ⟨q1, q2⟩ := HDR.out.c.2 n h1;have r1 := HDK.out.c.2 n h1;obtain ⟨r1, r2⟩ := r1;clear hbr bd HBR HKR HDK
       go_upto_region 11 with fail
       go_still_tail 14, (by kernel_rfl)
       change wpList _ _ _ _ _ wr.drew
       generalize wr.drew = wd at *
       have HDN : Hid (DskAt w2.heap.size (dskF (d.take (i + 1))) (wd.setCell ⟨w2.heap.size, n, none⟩ (.string s))) := Lib.hid (by
        rw [HSN.out, if_pos ⟨by omega, by omega⟩, Int.toNat_natCast]
        exact HDR.out.set h1 s)
       have HB2 := Lib.hid (HBD.out.setCell (p := ⟨w2.heap.size, n, none⟩) (by show w.heap.size ≤ w2.heap.size; omega) (.string s));have HK2 := Lib.hid (HKD.out.other (p := ⟨w2.heap.size, n, none⟩) (by show w2.heap.size ≠ w.heap.size; omega) (.string s));clear r1 r2;go_wp2;refine ⟨?_, by simp [intOf]; omega⟩
       iterate 40 apply Exists.intro
       exact ⟨⟨i + 1, by go_num, by omega, HDN.out, HB2.out, HK2.out⟩, rfl⟩
      ·have HDN : Hid (DskAt w2.heap.size (dskF (d.take (i + 1))) wr) := Lib.hid (by rw [HSN.out, if_neg (by omega)]; exact HDK.out)
       clear hbr;go_wp2;exact ⟨⟨i + 1, by go_num, by omega, HDN.out, HBR.out, HKR.out⟩, by simp [intOf]; omega⟩
     ·have HDN : Hid (DskAt w2.heap.size (dskF (d.take (i + 1))) wr) := Lib.hid (by rw [HSN.out, if_neg (by omega)]; exact HDK.out)
      clear hbr;go_wp2;exact ⟨⟨i + 1, by go_num, by omega, HDN.out, HBR.out, HKR.out⟩, by simp [intOf]; omega⟩
    ·obtain rfl : i = d.length := by omega
     have HE := Lib.hid hdk;rw [List.take_length] at HE;clear hdk hk;go_wp2;go_ret;exact ⟨_, rfl, by omega, HE.out, HBR.out⟩
def rdOf (F : Nat → ByteArray) (bad : Int) : Rd := fun b => if b < 0 ∨ 4096 ≤ b ∨ b = bad then (⟨#[]⟩, 60) else (F b.toNat, 0)
theorem rdOf_ok {F : Nat → ByteArray} {bad : Int} {n : Nat} (h : n < 4096) (hb : (n : Int) ≠ bad) : rdOf F bad n = (F n, 0) := by unfold rdOf; rw [if_neg (by omega), Int.toNat_natCast]
theorem lread_any (F : Nat → ByteArray) (bad : Int) (p q g : Nat) (b : Int) (w : World) (hb : 0 ≤ b ∧ b < 4096) (hp : w.cell? ⟨p, 0, none⟩ = some (.slice (some ⟨g, 0, none⟩) 4096 4096)) (hq : w.cell? ⟨q, 0, none⟩ = some (.int .i64 bad)) (hd : CellsAt g 4096 (strF F) w) :
 Calls Tryz.prog 49 #[.int .i64 b, .pointer (some ⟨p, 0, none⟩), .pointer (some ⟨q, 0, none⟩)] w fun e w' => e = .returned (.tuple #[.string (rdOf F bad b).1, .int .i64 (rdOf F bad b).2]) ∧ Below w.heap.size w w' := by
 obtain ⟨n, rfl⟩ := Int.eq_ofNat_of_zero_le hb.1;have h0 : decide ((n : Int) < 0) = false := decide_eq_false (by omega);have h1 : decide ((4096 : Int) ≤ (n : Int)) = false := decide_eq_false (by omega);obtain ⟨q1, -⟩ := hd.2 n (by omega);by_cases he : (n : Int) = bad
 ·have h2 : ((n : Int) == bad) = true := by rw [beq_iff_eq]; exact he
  have HE : Hid (rdOf F bad n = (⟨#[]⟩, 60)) := Lib.hid (by unfold rdOf; rw [if_pos (by omega)]);clear he hd
  go_enter Tryz.func49, Tryz.ntmps49
  go_wp2
  go_ret2
  rw [HE.out];exact ⟨rfl, Below.refl _ _⟩
 ·have h2 : ((n : Int) == bad) = false := by rw [beq_eq_false_iff_ne]; exact he
  have HE := Lib.hid (rdOf_ok (F := F) (n := n) (by omega) he);clear he hd
  go_enter Tryz.func49, Tryz.ntmps49
  go_wp2
  go_ret2
  rw [HE.out];exact ⟨rfl, Below.refl _ _⟩
structure RdrAt (p q g : Nat) (F : Nat → ByteArray) (bad : Int) (w : World) : Prop where
 pl : Blk p #[.slice (some ⟨g, 0, none⟩) 4096 4096] 40 w
 pb : Blk q #[.int .i64 bad] 3 w
 d : DskAt g F w
abbrev rdrC (p q : Nat) : Array Value := #[.pointer (some ⟨p, 0, none⟩), .pointer (some ⟨q, 0, none⟩)]
theorem RdrAt.kept1 {p q g : Nat} {F : Nat → ByteArray} {bad : Int} {w w' : World} (h : RdrAt p q g F bad w) (b : Below w.heap.size w w') : RdrAt p q g F bad w' := ⟨h.pl.kept1 b, h.pb.kept1 b, h.d.kept1 b⟩
theorem RdrAt.reads {p q g : Nat} {F : Nat → ByteArray} {bad : Int} {w : World} (h : RdrAt p q g F bad w) (hF : ∀ k, (F k).size ≤ 1000) : Reads 49 (rdrC p q) (rdOf F bad) w.heap.size w where
 ent := enters_of Tryz.func49 (by kernel_rfl) rfl
 call := fun b W h0 h1 hb => by
  have k := h.kept1 hb;exact lread_any F bad p q g b W ⟨h0, h1⟩ (k.pl.cell 0) (k.pb.cell 0) k.d.c
 size := fun b => by
  unfold rdOf maxLen;split
  ·show (0 : Nat) ≤ _; omega
  ·exact Nat.le_trans (hF _) (by omega)
theorem lreading_any (F : Nat → ByteArray) (bad : Int) (g : Nat) (w : World) (hd : DskAt g F w) :
 Calls Tryz.prog 20 #[.slice (some ⟨g, 0, none⟩) 4096 4096, .int .i64 bad] w fun e w' => e = .returned (.func (.func 49) #[] (rdrC w.heap.size (w.heap.size + 1))) ∧ RdrAt w.heap.size (w.heap.size + 1) g F bad w' ∧ Below w.heap.size w w' := by
 have b1 := balloc1 w (.cells #[.slice (some ⟨g, 0, none⟩) 4096 4096] 40);have b2 := balloc1 (w.alloc (.cells #[.slice (some ⟨g, 0, none⟩) 4096 4096] 40)) (.cells #[.int .i64 bad] 3);have k1 := (Blk.new #[.slice (some ⟨g, 0, none⟩) 4096 4096] 40 w).kept1 b2;have k2 := Blk.new #[.int .i64 bad] 3 (w.alloc (.cells #[.slice (some ⟨g, 0, none⟩) 4096 4096] 40));rw [size_alloc] at k2;have HR : Hid (RdrAt w.heap.size (w.heap.size + 1) g F bad ((w.alloc (.cells #[.slice (some ⟨g, 0, none⟩) 4096 4096] 40)).alloc (.cells #[.int .i64 bad] 3))) := Lib.hid ⟨k1, k2, hd.kept1 (bnext b1 b2)⟩;have HB := Lib.hid (bnext b1 b2);clear k1 k2 b1 b2 hd
 go_enter Tryz.func20, Tryz.ntmps20
 go_wp2;go_ret;exact ⟨rfl, HR.out, HB.out⟩
end Go.Proofs.YtknefoemgifbfaaGreat
