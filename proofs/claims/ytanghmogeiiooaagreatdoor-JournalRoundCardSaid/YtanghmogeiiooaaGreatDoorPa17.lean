import Derived.Test.YtanghmogeiiooaaGreatDoorPa16
import Derived.Test.YtanghmogeiiooaaGreatDoorPa10
import Derived.Test.YtanghmogeiiooaaGreatDoorPa13
import Derived.Test.YtanghmogeiiooaaGreatDoorPa01
import Derived.Test.YtanghmogeiiooaaGreatDoorPa08
set_option linter.unusedVariables false
set_option linter.unusedSimpArgs false
set_option linter.constructorNameAsVariable false
/- The reader: changes. -/
namespace Go.Proofs.YtanghmogeiiooaaGreatDoor
set_option linter.unusedVariables false
open Go.RowKit

theorem chg_info : (Tryz.prog.info? 61).map (fun i => (i.zero, i.size, i.bytes)) = some (some (.agg #[.int .i64 0, .string ⟨#[]⟩]), 2, 24) := by kernel_rfl
abbrev ChgsOwn (B : Nat) (v : Value) (L : List (Int × ByteArray)) (w : World) : Prop := w.ownsRow B 61 2 v L.length (chgsL L)
theorem row_zone {lo hi B n : Nat} {v : Value} {e : TypeId} {z : Nat} {xs : List Value} {w w' : World} (h : w.ownsRow B e z v n xs) (zz : Zone lo hi w w') (hB : hi ≤ B) : w'.ownsRow B e z v n xs :=
  ⟨h.1, h.2.imp id fun ⟨g, cap, cur, a1, a2, a3, a4⟩ => ⟨g, cap, cur, a1, a2, (zz.block g (lt_of_block a3) (.inr (by omega))).trans a3, a4⟩⟩
theorem new_chg (w : World) (c : Int × ByteArray) : ∀ (j : Nat) (u : Value), [Value.int .i64 c.1, Value.string c.2][j]? = some u → (w.alloc (.cells (chgC c) 61)).cell? ((⟨w.heap.size, 0, none⟩ : Addr).add j) = some u := fun j u hj => by
  rw [add_at, Nat.zero_add, World.cell?_alloc_mark]
  simpa using hj
theorem wpList_appC {ops : Array Oper} {rest : List Oper} {o : Oper} {a : Act} {Q : Exit → Act → World → Prop} {w : World} (hgd : o.guard = none) (s x : Operand)
    (ho : o.op = .call { callee := .builtin .append, args := #[s, x], argTypes := #[62, 62] })
    (base : Nat) (v : Value) (L : List (Int × ByteArray)) (k : Int × ByteArray) (hs : a.eval s = v) (hown : ChgsOwn base v L w) (W : World) (hW : w = W.alloc (.cells (chgC k) 61)) (hx : a.eval x = .slice (some ⟨W.heap.size, 0, none⟩) 1 1)
    (hlen : L.length ≤ 4000000) (hbase : base ≤ w.heap.size)
    (h : ∀ v' w', ChgsOwn base v' (L ++ [k]) w' → Below base w w' → wpList Tryz.prog ops Q rest (a.put o.dst v') w') : wpList Tryz.prog ops Q (o :: rest) a w := by
  obtain ⟨i0, hi, hz0, hz1, hz2⟩ := info_parts chg_info
  subst hW
  refine wpList_append_own (w := W.alloc (.cells (chgC k) 61)) hgd s x 62 ho base 61 i0 (.agg #[.int .i64 0, .string ⟨#[]⟩]) 2 24 Tryz.underlying62 hi hz0 hz1 hz2 rfl (by decide) v _ _ hs hown ⟨W.heap.size, 0, none⟩ 1 1 [.int .i64 k.1, .string k.2] hx rfl (new_chg W k) (fun u hu => by simp at hu; rcases hu with rfl | rfl <;> rfl) (by unfold maxLen; omega) (by omega) hbase ?_
  intro v' w' h1 h2 _
  refine h v' w' ?_ (below_of_row hown h2 hbase)
  show w'.ownsRow _ _ _ _ (L ++ [k]).length (chgsL (L ++ [k]))
  rw [List.length_append, chgsL_append]; exact h1
theorem jmore_none (r : Nat) : moreV r [] = r := by unfold moreV run; show 4294967295 ^^^ (4294967295 ^^^ r) = r; rw [← Nat.xor_assoc, Nat.xor_self, Nat.zero_xor]
theorem dataOf_length (rd : Nat → ByteArray) (p : Nat) (r : Rec) (k : Nat) : (dataOf rd p r k).length = k := by unfold dataOf; simp
/-- the cells of a record's lists that a later world has, too -/
theorem lists_zone {g : Nat} {r : Rec} {ah am : Option Addr} {ch cm : Nat} {w : World} (h : RecOwn (g + 1) r (.slice ah r.homes.length ch) (.slice am r.masked.length cm) w) (hm : r.masked.length = r.homes.length) :
    ∀ k (hk : k < r.homes.length) (hk2 : k < r.masked.length), ∃ gh gm, ah = some ⟨gh, 0, none⟩ ∧ am = some ⟨gm, 0, none⟩ ∧ ∀ wr, Zone g (g + 1) w wr → wr.cell? ⟨gh, k, none⟩ = some (.int .i64 r.homes[k]) ∧ wr.cell? ⟨gm, k, none⟩ = some (.bool r.masked[k]) := by
  intro k hk hk2
  obtain ⟨hh, hb⟩ := h
  obtain ⟨ad, cap, e1, -, -, h1⟩ := shape_of hh
  obtain ⟨ad2, cap2, e2, -, -, h2⟩ := shape_of hb
  obtain ⟨gh, q1, q2, q3⟩ := h1 (by omega)
  obtain ⟨gm, p1, p2, p3⟩ := h2 (by omega)
  injection e1 with e1 _ _; injection e2 with e2 _ _
  subst e1; subst e2; subst q1; subst p1
  refine ⟨gh, gm, rfl, rfl, fun wr z => ⟨?_, ?_⟩⟩
  · rw [zone_cell z q3 (.inr q2), hh.cellAt k (by omega), List.getElem?_map, List.getElem?_eq_getElem hk]; rfl
  · rw [zone_cell z p3 (.inr p2), hb.cellAt k (by omega), List.getElem?_map, List.getElem?_eq_getElem hk2]; rfl
set_option maxRecDepth 100000 in
set_option maxHeartbeats 8000000 in
theorem changes_ok (g d lo hi : Nat) (b l i la ma ml ta tl da : Int) (hl : 128 ≤ l ∧ l ≤ 512) (hla : 0 ≤ la ∧ la ≤ 4096) (slot read left : Nat) (seq sum : Nat) (hsum : sum < 4294967296) {S : St} (r : Rec) (vh vm : Value) (w : World)
    (h : RdAt g d b l i la ma ml ta tl da slot left seq read sum w) (hd : DevAt d lo hi S w) (hg : hi ≤ g) (hg0 : 0 < g) (ht : Tab w) (hr : RecOwn (g + 1) r vh vm w) (hm : r.masked.length = r.homes.length) (hn : r.homes.length ≤ 28) (hs : slot + left ≤ 2000) (hle : read + r.homes.length ≤ left) :
    Calls Tryz.prog 92 #[.pointer (some ⟨g, 0, none⟩), recV r vh vm] w fun e w' => ∃ v, e = .returned (.tuple #[v, .bool true]) ∧ ChgsOwn w.heap.size v (dataOf (slotT S la l) (slot + read) r r.homes.length) w' ∧
      RdAt g d b l i la ma ml ta tl da slot left seq ((read + r.homes.length : Nat) : Int) (moreV sum (bytesOf (slotT S la l) (slot + read) r.homes.length)) w' ∧ Zone g (g + 1) w w' := by
  have hgw := h.lt
  obtain ⟨ah, ch, rfl, -⟩ := shape_of hr.1
  obtain ⟨am, cm, rfl, -⟩ := shape_of hr.2
  have HC := Lib.hid (lists_zone hr hm)
  have HD := Lib.hid hd
  have HT := Lib.hid ht
  have hX0 : Blk w.heap.size (recC r (.slice ah r.homes.length ch) (.slice am r.masked.length cm)) 134 (w.alloc (.cells (recC r (.slice ah r.homes.length ch) (.slice am r.masked.length cm)) 134)) := Blk.new _ _ w
  have HX0 := Lib.hid hX0
  have HR0 := Lib.hid (h.kept1 (balloc1 w (.cells (recC r (.slice ah r.homes.length ch) (.slice am r.masked.length cm)) 134)))
  have HZ0 : Hid (Zone g (g + 1) w (w.alloc (.cells (recC r (.slice ah r.homes.length ch) (.slice am r.masked.length cm)) 134))) := Lib.hid (Zone.of_below (balloc1 w _) _ _)
  have HDA := Lib.hid (fun k => dataOf_succ (slotT S la l) (slot + read) r k)
  have HBY := Lib.hid (fun k => bytesOf_succ (slotT S la l) (slot + read) k)
  have HAT : Hid (∀ k (hk : k < r.homes.length) (hk2 : k < r.masked.length), dataAt (slotT S la l) (slot + read) r k = (r.homes[k], if r.masked[k] then unmaskV (slotT S la l (slot + read + k)) else slotT S la l (slot + read + k))) := Lib.hid fun k hk hk2 => by
    unfold dataAt; rw [hat_eq hk, List.getElem?_eq_getElem hk2]; rfl
  have HLN := Lib.hid (fun k => dataOf_length (slotT S la l) (slot + read) r k)
  obtain ⟨DA, hDA⟩ : ∃ DA : Nat → List (Int × ByteArray), DA = dataOf (slotT S la l) (slot + read) r := ⟨_, rfl⟩
  rw [← hDA] at HDA HLN
  try rw [← hDA]
  obtain ⟨DT, hDT⟩ : ∃ DT : Nat → Int × ByteArray, DT = dataAt (slotT S la l) (slot + read) r := ⟨_, rfl⟩
  rw [← hDT] at HDA HAT
  have HDA0 : Hid (DA 0 = []) := Lib.hid (by rw [hDA]; rfl)
  obtain ⟨BY, hBY⟩ : ∃ BY : Nat → List UInt8, BY = bytesOf (slotT S la l) (slot + read) := ⟨_, rfl⟩
  have HBY0 : Hid (moreV sum (BY 0) = sum) := Lib.hid (by rw [hBY]; exact jmore_none sum)
  rw [← hBY] at HBY
  try rw [← hBY]
  clear hDA hDT hBY hr h hd ht
  obtain ⟨kind, sq, pos, homes, masked, sm⟩ := r
  dsimp only at *
  have HM := Lib.hid hm
  clear hm
  go_enter Tryz.func92, Tryz.ntmps92
  go_wp2
  go_loopw [6, 14] (fun v q wr => ∃ k : Nat, q = .int .i64 k ∧ k ≤ homes.length ∧ ChgsOwn (w.heap.size + 1) v (DA k) wr ∧ Blk w.heap.size (recC ⟨kind, sq, pos, homes, masked, sm⟩ (.slice ah homes.length ch) (.slice am masked.length cm)) 134 wr ∧ RdAt g d b l i la ma ml ta tl da slot left seq ((read + k : Nat) : Int) (moreV sum (BY k)) wr ∧ Zone g (g + 1) w wr) (fun _ q _ => homes.length - (intOf q).toNat)
  case atStart => exact ⟨0, rfl, Nat.zero_le _, by rw [HDA0.out]; exact World.ownsRow_nil _ _ _ _, HX0.out, by rw [HBY0.out]; exact HR0.out, HZ0.out⟩
  case round =>
    clear HX0 HR0 HZ0 HDA0 HBY0
    obtain ⟨k, rfl, hk, hV, hX, hR, hZ⟩ := hrel
    have hln := HLN.out k
    obtain ⟨ad, cap, rfl, -⟩ := shape_of hV
    by_cases hlt : k < homes.length
    · have hlt2 : k < masked.length := by have := HM.out; omega
      obtain ⟨gh, gm, rfl, rfl, hcc⟩ := HC.out k hlt hlt2
      have c0 := (hcc _ hZ).1
      have hls := moreV_lt sum (BY k) hsum
      have NX := Lib.hid (next_more g d lo hi b l i la ma ml ta tl da hl hla slot (read + k) left seq (moreV sum (BY k)) (by omega) (by omega) hls wr hR (HD.out.kept hZ (.inl hg)) hg hg0 (tab_zone HT.out hZ hg0))
      rw [← Nat.add_assoc] at NX
      have HX := Lib.hid hX
      have HV := Lib.hid hV
      have HZ := Lib.hid hZ
      have HCC := Lib.hid hcc
      have hbx := hX.lt
      clear hX hR hZ hV hcc hls
      go_wp2_with fail
      refine NX.out.mono ?_; rintro e w2 ⟨rfl, hR2, z2⟩
      have hz2 := z2.size
      have hX2 := HX.out.kept z2 (.inr (by omega))
      obtain ⟨x0, x1, x2, x3, x4, x5⟩ := rec_cells hX2
      have HX2 := Lib.hid hX2
      have HV2 := Lib.hid (row_zone HV.out z2 (by omega))
      have HZ2 := Lib.hid (HZ.out.trans z2)
      have c1 := (HCC.out _ HZ2.out).2
      have HR2 := Lib.hid hR2
      have hat := HAT.out k hlt hlt2
      clear NX HX HV HZ HCC hR2 z2 hX2 c0
      obtain ⟨T, hT⟩ : ∃ T, slotT S la l (slot + read + k) = T := ⟨_, rfl⟩
      have hTz : T.size ≤ maxLen := by rw [← hT]; exact slotT_size HD.out.ok la l (slot + read + k)
      have UM := Lib.hid (unmask_any T hTz)
      have hby : BY (k + 1) = BY k ++ T.data.toList := by rw [← hT]; exact HBY.out k
      have HR3 : Hid (RdAt g d b l i la ma ml ta tl da slot left seq ((read + (k + 1) : Nat) : Int) (moreV sum (BY (k + 1))) w2) := Lib.hid (by
        rw [hby, moreV_append, show ((read + (k + 1) : Nat) : Int) = ((read + k : Nat) : Int) + 1 by omega]
        rw [hT] at HR2; exact HR2.out)
      have HDK := Lib.hid (HDA.out k)
      rw [hT] at hat ⊢
      obtain ⟨β, hβ⟩ : ∃ β, masked[k] = β := ⟨_, rfl⟩
      rw [hβ] at c1 hat
      obtain ⟨hv, hhv⟩ : ∃ hv, homes[k] = hv := ⟨_, rfl⟩
      rw [hhv] at hat ⊢
      have HAT2 := Lib.hid hat
      clear hat hby HR2 hT hTz hβ hhv
      cases β with
      | false =>
        go_wp2_with (at_builtin; refine wpList_appC rfl _ _ rfl (w.heap.size + 1) _ _ (hv, T) rfl (World.ownsRow.alloc (by have := HV2.out; rw [hln] at this ⊢; exact this) _) w2 rfl rfl (by omega) (by rw [size_alloc]; omega) ?_)
        intro v5 w5 hv5 b5
        have hx5 := (b5.block _ (Nat.lt_succ_self _)).trans (HX2.out.kept1 (balloc1 _ _))
        have hr5 := (b5.block _ (show g < w.heap.size + 1 by omega)).trans (HR3.out.kept1 (balloc1 _ _))
        have HN : Hid (ChgsOwn (w.heap.size + 1) v5 (DA (k + 1)) w5) := Lib.hid (by rw [HDK.out, show DT k = (hv, T) from HAT2.out]; exact hv5)
        have HX5 : Hid (Blk w.heap.size (recC ⟨kind, sq, pos, homes, masked, sm⟩ (.slice (some ⟨gh, 0, none⟩) homes.length ch) (.slice (some ⟨gm, 0, none⟩) masked.length cm)) 134 w5) := Lib.hid hx5
        have HR5 : Hid (RdAt g d b l i la ma ml ta tl da slot left seq ((read + (k + 1) : Nat) : Int) (moreV sum (BY (k + 1))) w5) := Lib.hid hr5
        have HZ5 := Lib.hid ((HZ2.out.alloc _).later (Nat.le_succ _) b5)
        clear hv5 hx5 hr5 HX2 HV2 HZ2 HR3 HDK HAT2 b5 x0 x1 x2 x3 x4 x5 c1
        go_wp2
        exact ⟨⟨k + 1, by go_num, by omega, HN.out, HX5.out, HR5.out, HZ5.out⟩, by simp [intOf]; omega⟩
      | true =>
        go_wp2_with fail
        refine (UM.out _).mono ?_; rintro e w3 ⟨rfl, rfl⟩
        go_wp2_with (at_builtin; refine wpList_appC rfl _ _ rfl (w.heap.size + 1) _ _ (hv, unmaskV T) rfl (World.ownsRow.alloc (by have := HV2.out; rw [hln] at this ⊢; exact this) _) w2 rfl rfl (by omega) (by rw [size_alloc]; omega) ?_)
        intro v5 w5 hv5 b5
        have hx5 := (b5.block _ (Nat.lt_succ_self _)).trans (HX2.out.kept1 (balloc1 _ _))
        have hr5 := (b5.block _ (show g < w.heap.size + 1 by omega)).trans (HR3.out.kept1 (balloc1 _ _))
        have HN : Hid (ChgsOwn (w.heap.size + 1) v5 (DA (k + 1)) w5) := Lib.hid (by rw [HDK.out, show DT k = (hv, unmaskV T) from HAT2.out]; exact hv5)
        have HX5 : Hid (Blk w.heap.size (recC ⟨kind, sq, pos, homes, masked, sm⟩ (.slice (some ⟨gh, 0, none⟩) homes.length ch) (.slice (some ⟨gm, 0, none⟩) masked.length cm)) 134 w5) := Lib.hid hx5
        have HR5 : Hid (RdAt g d b l i la ma ml ta tl da slot left seq ((read + (k + 1) : Nat) : Int) (moreV sum (BY (k + 1))) w5) := Lib.hid hr5
        have HZ5 := Lib.hid ((HZ2.out.alloc _).later (Nat.le_succ _) b5)
        clear hv5 hx5 hr5 HX2 HV2 HZ2 HR3 HDK HAT2 b5 x0 x1 x2 x3 x4 x5 c1
        go_wp2
        exact ⟨⟨k + 1, by go_num, by omega, HN.out, HX5.out, HR5.out, HZ5.out⟩, by simp [intOf]; omega⟩
    · obtain rfl : k = homes.length := by omega
      have HV := Lib.hid (row_down (Nat.le_succ _) hV)
      have HR := Lib.hid hR
      have HZ := Lib.hid hZ
      clear hV hX hR hZ HC HDA HBY HAT
      go_wp2
      go_ret2
      exact ⟨_, rfl, HV.out, HR.out, HZ.out⟩
set_option maxRecDepth 100000 in
set_option maxHeartbeats 8000000 in
theorem changes_no (g d lo hi : Nat) (b l i la ma ml ta tl da : Int) (hl : 128 ≤ l ∧ l ≤ 512) (hla : 0 ≤ la ∧ la ≤ 4096) (slot read left : Nat) (seq sum : Nat) (hsum : sum < 4294967296) {S : St} (r : Rec) (vh vm : Value) (w : World)
    (h : RdAt g d b l i la ma ml ta tl da slot left seq read sum w) (hd : DevAt d lo hi S w) (hg : hi ≤ g) (hg0 : 0 < g) (ht : Tab w) (hr : RecOwn (g + 1) r vh vm w) (hm : r.masked.length = r.homes.length) (hn : r.homes.length ≤ 28) (hs : slot + left ≤ 2000) (hr0 : read ≤ left) (hle : left < read + r.homes.length) :
    Calls Tryz.prog 92 #[.pointer (some ⟨g, 0, none⟩), recV r vh vm] w fun e w' => e = .returned (.tuple #[.slice none 0 0, .bool false]) ∧ (∃ sum', RdAt g d b l i la ma ml ta tl da slot left seq left sum' w') ∧ Zone g (g + 1) w w' := by
  have hgw := h.lt
  obtain ⟨ah, ch, rfl, -⟩ := shape_of hr.1
  obtain ⟨am, cm, rfl, -⟩ := shape_of hr.2
  have HC := Lib.hid (lists_zone hr hm)
  have HD := Lib.hid hd
  have HT := Lib.hid ht
  have hX0 : Blk w.heap.size (recC r (.slice ah r.homes.length ch) (.slice am r.masked.length cm)) 134 (w.alloc (.cells (recC r (.slice ah r.homes.length ch) (.slice am r.masked.length cm)) 134)) := Blk.new _ _ w
  have HX0 := Lib.hid hX0
  have HR0 := Lib.hid (h.kept1 (balloc1 w (.cells (recC r (.slice ah r.homes.length ch) (.slice am r.masked.length cm)) 134)))
  have HZ0 : Hid (Zone g (g + 1) w (w.alloc (.cells (recC r (.slice ah r.homes.length ch) (.slice am r.masked.length cm)) 134))) := Lib.hid (Zone.of_below (balloc1 w _) _ _)
  have HDA := Lib.hid (fun k => dataOf_succ (slotT S la l) (slot + read) r k)
  have HBY := Lib.hid (fun k => bytesOf_succ (slotT S la l) (slot + read) k)
  have HAT : Hid (∀ k (hk : k < r.homes.length) (hk2 : k < r.masked.length), dataAt (slotT S la l) (slot + read) r k = (r.homes[k], if r.masked[k] then unmaskV (slotT S la l (slot + read + k)) else slotT S la l (slot + read + k))) := Lib.hid fun k hk hk2 => by
    unfold dataAt; rw [hat_eq hk, List.getElem?_eq_getElem hk2]; rfl
  have HLN := Lib.hid (fun k => dataOf_length (slotT S la l) (slot + read) r k)
  obtain ⟨DA, hDA⟩ : ∃ DA : Nat → List (Int × ByteArray), DA = dataOf (slotT S la l) (slot + read) r := ⟨_, rfl⟩
  rw [← hDA] at HDA HLN
  try rw [← hDA]
  obtain ⟨DT, hDT⟩ : ∃ DT : Nat → Int × ByteArray, DT = dataAt (slotT S la l) (slot + read) r := ⟨_, rfl⟩
  rw [← hDT] at HDA HAT
  have HDA0 : Hid (DA 0 = []) := Lib.hid (by rw [hDA]; rfl)
  obtain ⟨BY, hBY⟩ : ∃ BY : Nat → List UInt8, BY = bytesOf (slotT S la l) (slot + read) := ⟨_, rfl⟩
  have HBY0 : Hid (moreV sum (BY 0) = sum) := Lib.hid (by rw [hBY]; exact jmore_none sum)
  rw [← hBY] at HBY
  try rw [← hBY]
  clear hDA hDT hBY hr h hd ht
  obtain ⟨kind, sq, pos, homes, masked, sm⟩ := r
  dsimp only at *
  have HM := Lib.hid hm
  clear hm
  go_enter Tryz.func92, Tryz.ntmps92
  go_wp2
  go_loopw [6, 14] (fun v q wr => ∃ k : Nat, q = .int .i64 k ∧ k ≤ homes.length ∧ read + k ≤ left ∧ ChgsOwn (w.heap.size + 1) v (DA k) wr ∧ Blk w.heap.size (recC ⟨kind, sq, pos, homes, masked, sm⟩ (.slice ah homes.length ch) (.slice am masked.length cm)) 134 wr ∧ RdAt g d b l i la ma ml ta tl da slot left seq ((read + k : Nat) : Int) (moreV sum (BY k)) wr ∧ Zone g (g + 1) w wr) (fun _ q _ => homes.length - (intOf q).toNat)
  case atStart => exact ⟨0, rfl, Nat.zero_le _, hr0, by rw [HDA0.out]; exact World.ownsRow_nil _ _ _ _, HX0.out, by rw [HBY0.out]; exact HR0.out, HZ0.out⟩
  case round =>
    clear HX0 HR0 HZ0 HDA0 HBY0
    obtain ⟨k, rfl, hk, hrl, hV, hX, hR, hZ⟩ := hrel
    have hln := HLN.out k
    obtain ⟨ad, cap, rfl, -⟩ := shape_of hV
    by_cases hlt : k < homes.length
    · have hlt2 : k < masked.length := by have := HM.out; omega
      obtain ⟨gh, gm, rfl, rfl, hcc⟩ := HC.out k hlt hlt2
      have c0 := (hcc _ hZ).1
      by_cases hend : read + k = left
      · rw [hend] at hR
        have NX := Lib.hid (next_end g d b l i la ma ml ta tl da slot left seq (moreV sum (BY k)) wr hR)
        have HX := Lib.hid hX
        have HR := Lib.hid hR
        have HZ := Lib.hid hZ
        clear hX hR hZ hV hcc
        go_wp2_with fail
        refine NX.out.mono ?_; rintro e w2 ⟨rfl, b2⟩
        have HR2 := Lib.hid (HR.out.kept1 b2)
        have HZ2 := Lib.hid (HZ.out.trans (Zone.of_below b2 g (g + 1)))
        clear NX HX HR HZ b2 c0
        go_wp2
        go_ret2
        exact ⟨rfl, ⟨_, HR2.out⟩, HZ2.out⟩
      · skip
        have hls := moreV_lt sum (BY k) hsum
        have NX := Lib.hid (next_more g d lo hi b l i la ma ml ta tl da hl hla slot (read + k) left seq (moreV sum (BY k)) (by omega) (by omega) hls wr hR (HD.out.kept hZ (.inl hg)) hg hg0 (tab_zone HT.out hZ hg0))
        rw [← Nat.add_assoc] at NX
        have HX := Lib.hid hX
        have HV := Lib.hid hV
        have HZ := Lib.hid hZ
        have HCC := Lib.hid hcc
        have hbx := hX.lt
        clear hX hR hZ hV hcc hls
        go_wp2_with fail
        refine NX.out.mono ?_; rintro e w2 ⟨rfl, hR2, z2⟩
        have hz2 := z2.size
        have hX2 := HX.out.kept z2 (.inr (by omega))
        obtain ⟨x0, x1, x2, x3, x4, x5⟩ := rec_cells hX2
        have HX2 := Lib.hid hX2
        have HV2 := Lib.hid (row_zone HV.out z2 (by omega))
        have HZ2 := Lib.hid (HZ.out.trans z2)
        have c1 := (HCC.out _ HZ2.out).2
        have HR2 := Lib.hid hR2
        have hat := HAT.out k hlt hlt2
        clear NX HX HV HZ HCC hR2 z2 hX2 c0
        obtain ⟨T, hT⟩ : ∃ T, slotT S la l (slot + read + k) = T := ⟨_, rfl⟩
        have hTz : T.size ≤ maxLen := by rw [← hT]; exact slotT_size HD.out.ok la l (slot + read + k)
        have UM := Lib.hid (unmask_any T hTz)
        have hby : BY (k + 1) = BY k ++ T.data.toList := by rw [← hT]; exact HBY.out k
        have HR3 : Hid (RdAt g d b l i la ma ml ta tl da slot left seq ((read + (k + 1) : Nat) : Int) (moreV sum (BY (k + 1))) w2) := Lib.hid (by
          rw [hby, moreV_append, show ((read + (k + 1) : Nat) : Int) = ((read + k : Nat) : Int) + 1 by omega]
          rw [hT] at HR2; exact HR2.out)
        have HDK := Lib.hid (HDA.out k)
        rw [hT] at hat ⊢
        obtain ⟨β, hβ⟩ : ∃ β, masked[k] = β := ⟨_, rfl⟩
        rw [hβ] at c1 hat
        obtain ⟨hv, hhv⟩ : ∃ hv, homes[k] = hv := ⟨_, rfl⟩
        rw [hhv] at hat ⊢
        have HAT2 := Lib.hid hat
        clear hat hby HR2 hT hTz hβ hhv
        cases β with
        | false =>
          go_wp2_with (at_builtin; refine wpList_appC rfl _ _ rfl (w.heap.size + 1) _ _ (hv, T) rfl (World.ownsRow.alloc (by have := HV2.out; rw [hln] at this ⊢; exact this) _) w2 rfl rfl (by omega) (by rw [size_alloc]; omega) ?_)
          intro v5 w5 hv5 b5
          have hx5 := (b5.block _ (Nat.lt_succ_self _)).trans (HX2.out.kept1 (balloc1 _ _))
          have hr5 := (b5.block _ (show g < w.heap.size + 1 by omega)).trans (HR3.out.kept1 (balloc1 _ _))
          have HN : Hid (ChgsOwn (w.heap.size + 1) v5 (DA (k + 1)) w5) := Lib.hid (by rw [HDK.out, show DT k = (hv, T) from HAT2.out]; exact hv5)
          have HX5 : Hid (Blk w.heap.size (recC ⟨kind, sq, pos, homes, masked, sm⟩ (.slice (some ⟨gh, 0, none⟩) homes.length ch) (.slice (some ⟨gm, 0, none⟩) masked.length cm)) 134 w5) := Lib.hid hx5
          have HR5 : Hid (RdAt g d b l i la ma ml ta tl da slot left seq ((read + (k + 1) : Nat) : Int) (moreV sum (BY (k + 1))) w5) := Lib.hid hr5
          have HZ5 := Lib.hid ((HZ2.out.alloc _).later (Nat.le_succ _) b5)
          clear hv5 hx5 hr5 HX2 HV2 HZ2 HR3 HDK HAT2 b5 x0 x1 x2 x3 x4 x5 c1
          go_wp2
          exact ⟨⟨k + 1, by go_num, by omega, by omega, HN.out, HX5.out, HR5.out, HZ5.out⟩, by simp [intOf]; omega⟩
        | true =>
          go_wp2_with fail
          refine (UM.out _).mono ?_; rintro e w3 ⟨rfl, rfl⟩
          go_wp2_with (at_builtin; refine wpList_appC rfl _ _ rfl (w.heap.size + 1) _ _ (hv, unmaskV T) rfl (World.ownsRow.alloc (by have := HV2.out; rw [hln] at this ⊢; exact this) _) w2 rfl rfl (by omega) (by rw [size_alloc]; omega) ?_)
          intro v5 w5 hv5 b5
          have hx5 := (b5.block _ (Nat.lt_succ_self _)).trans (HX2.out.kept1 (balloc1 _ _))
          have hr5 := (b5.block _ (show g < w.heap.size + 1 by omega)).trans (HR3.out.kept1 (balloc1 _ _))
          have HN : Hid (ChgsOwn (w.heap.size + 1) v5 (DA (k + 1)) w5) := Lib.hid (by rw [HDK.out, show DT k = (hv, unmaskV T) from HAT2.out]; exact hv5)
          have HX5 : Hid (Blk w.heap.size (recC ⟨kind, sq, pos, homes, masked, sm⟩ (.slice (some ⟨gh, 0, none⟩) homes.length ch) (.slice (some ⟨gm, 0, none⟩) masked.length cm)) 134 w5) := Lib.hid hx5
          have HR5 : Hid (RdAt g d b l i la ma ml ta tl da slot left seq ((read + (k + 1) : Nat) : Int) (moreV sum (BY (k + 1))) w5) := Lib.hid hr5
          have HZ5 := Lib.hid ((HZ2.out.alloc _).later (Nat.le_succ _) b5)
          clear hv5 hx5 hr5 HX2 HV2 HZ2 HR3 HDK HAT2 b5 x0 x1 x2 x3 x4 x5 c1
          go_wp2
          exact ⟨⟨k + 1, by go_num, by omega, by omega, HN.out, HX5.out, HR5.out, HZ5.out⟩, by simp [intOf]; omega⟩
    · omega
end Go.Proofs.YtanghmogeiiooaaGreatDoor

/- The reader: what the next record is, case by case; a transaction's rows. -/
namespace Go.Proofs.YtanghmogeiiooaaGreatDoor
set_option linter.unusedVariables false
open Go.RowKit

theorem stand_end {rd : Nat → ByteArray} {hm : Int → Bool} {p seq left f n : Nat} {t : Tx} (h : left ≤ n) : stand rd hm p seq left f n t = none := by
  cases f with
  | zero => rfl
  | succ f => unfold stand; rw [if_pos h]
theorem recOk_up {r : Rec} (h : RecOk r) : upTo r.homes r.homes.length := by
  rcases h with h | h | h | h
  · rw [h.2.2.2.1]; exact upTo_zero _
  · exact h.2.1.2.2
  · exact h.2.1.2.2
  · rw [h.2.2.1]; exact upTo_zero _
/-- what becomes of a good record -/
theorem stand_good {rd : Nat → ByteArray} {hm : Int → Bool} {p seq left n f : Nat} {t : Tx} (hb : IsBlk (rd (p + n))) (hs : (readR (rd (p + n))).seq = seq) (hn : n < left) :
    stand rd hm p seq left (f + 1) n t =
      (if (readR (rd (p + n))).kind = 1 then none
      else if (readR (rd (p + n))).kind = 4 then (if (readR (rd (p + n))).sum = moreV 0 (bytesOf rd p n) then some (t, n + 1) else none)
      else if ¬ ((readR (rd (p + n))).homes.all hm = true) then none
      else if (readR (rd (p + n))).kind = 3 then stand rd hm p seq left f (n + 1) { t with revokes := t.revokes ++ (readR (rd (p + n))).homes }
      else if left < n + 1 + (readR (rd (p + n))).homes.length then none
      else stand rd hm p seq left f (n + 1 + (readR (rd (p + n))).homes.length) { t with changes := t.changes ++ dataOf rd (p + n + 1) (readR (rd (p + n))) (readR (rd (p + n))).homes.length }) := by
  conv => lhs; unfold stand
  rw [if_neg (by omega), if_neg (not_not_intro hb)]
  simp only
  by_cases hk : (readR (rd (p + n))).kind = 1
  · rw [if_pos (.inr hk), if_pos hk]
  · rw [if_neg (by rintro (h | h); exact h hs; exact hk h), if_neg hk]
theorem kind_any {r : Rec} (h : RecOk r) : r.kind = 1 ∨ (r.kind = 2 ∧ r.masked.length = r.homes.length ∧ 1 ≤ r.homes.length ∧ r.homes.length ≤ 24) ∨ (r.kind = 3 ∧ 1 ≤ r.homes.length ∧ r.homes.length ≤ 28) ∨ r.kind = 4 := by
  rcases h with h | h | h | h
  · exact .inl h.1
  · have h1 := h.2.1.1; have h2 := h.2.1.2.1; exact .inr (.inl ⟨h.1, h.2.2.1, by omega, by omega⟩)
  · have h1 := h.2.1.1; have h2 := h.2.1.2.1; exact .inr (.inr (.inl ⟨h.1, by omega, by omega⟩))
  · exact .inr (.inr (.inr h.1))
/-- no record that can be one of the transaction's, or one that can -/
theorem record_cases (g d lo hi : Nat) (b l i la ma ml ta tl da : Int) (hl : 128 ≤ l ∧ l ≤ 512) (hla : 0 ≤ la ∧ la ≤ 4096) (slot n left : Nat) (seq sum : Nat) (hn : n ≤ left) (hs : slot + left ≤ 2000) (hsum : sum < 4294967296) {S : St} (w : World) (f : Nat) (t : Tx)
    (h : RdAt g d b l i la ma ml ta tl da slot left seq n sum w) (hd : DevAt d lo hi S w) (hg : hi ≤ g) (hg0 : 0 < g) (ht : Tab w) :
    (stand (slotT S la l) (hmB b la l) slot seq left f n t = none ∧ Calls Tryz.prog 91 #[.pointer (some ⟨g, 0, none⟩)] w fun e w' => e = .returned (.tuple #[noR, .bool false]) ∧ Zone g (g + 1) w w') ∨
    (n < left ∧ IsBlk (slotT S la l (slot + n)) ∧ (readR (slotT S la l (slot + n))).seq = seq ∧ (readR (slotT S la l (slot + n))).homes.all (hmB b la l) = true ∧
      Calls Tryz.prog 91 #[.pointer (some ⟨g, 0, none⟩)] w fun e w' => ∃ vh vm, e = .returned (.tuple #[recV (readR (slotT S la l (slot + n))) vh vm, .bool true]) ∧ RecOwn w.heap.size (readR (slotT S la l (slot + n))) vh vm w' ∧ RdAt g d b l i la ma ml ta tl da slot left seq ((n : Int) + 1) (moreV sum (slotT S la l (slot + n)).data.toList) w' ∧ Zone g (g + 1) w w') := by
  by_cases he : n = left
  · subst he
    refine .inl ⟨stand_end (Nat.le_refl _), ?_⟩
    exact (record_end g d b l i la ma ml ta tl da slot n seq sum w h).mono fun e w' q => ⟨q.1, Zone.of_below q.2 _ _⟩
  have hlt : n < left := by omega
  have hr : (n : Int) ≠ (left : Int) := by omega
  by_cases hb : IsBlk (slotT S la l (slot + n))
  · by_cases hq : (readR (slotT S la l (slot + n))).seq = seq
    · have hup := riseTo_up (hm := hmB b la l) (recOk_up hb.2.1)
      by_cases hu : riseTo (hmB b la l) (readR (slotT S la l (slot + n))).homes (readR (slotT S la l (slot + n))).homes.length
      · exact .inr ⟨hlt, hb, hq, hup.1 hu, record_ok g d lo hi b l i la ma ml ta tl da hl hla slot n left seq sum hr (by omega) hsum w h hd hg hg0 ht hb hq hu⟩
      · refine .inl ⟨?_, (record_up g d lo hi b l i la ma ml ta tl da hl hla slot n left seq sum hr (by omega) hsum w h hd hg hg0 ht hb hq hu).mono fun e w' q => ⟨q.1, q.2.2⟩⟩
        have hh : ¬ (readR (slotT S la l (slot + n))).homes.all (hmB b la l) = true := fun k => hu (hup.2 k)
        cases f with
        | zero => rfl
        | succ f =>
          rw [stand_good hb hq hlt]
          by_cases k1 : (readR (slotT S la l (slot + n))).kind = 1
          · rw [if_pos k1]
          · rw [if_neg k1]
            by_cases k4 : (readR (slotT S la l (slot + n))).kind = 4
            · exfalso
              refine hh ?_
              rcases hb.2.1 with q | q | q | q
              · exact absurd q.1 k1
              · rw [q.1] at k4; omega
              · rw [q.1] at k4; omega
              · rw [List.eq_nil_of_length_eq_zero q.2.2.1]; rfl
            · rw [if_neg k4, if_pos hh]
    · exact .inl ⟨stand_no (.inr (.inl hq)), (record_seq g d lo hi b l i la ma ml ta tl da hl hla slot n left seq sum hr (by omega) hsum w h hd hg hg0 ht hb hq).mono fun e w' q => ⟨q.1, q.2.2⟩⟩
  · exact .inl ⟨stand_no (.inl hb), (record_none g d lo hi b l i la ma ml ta tl da hl hla slot n left seq sum hr (by omega) hsum w h hd hg hg0 ht hb).mono fun e w' q => ⟨q.1, q.2.2⟩⟩

/-! ### a transaction's rows -/
theorem txn_info : (Tryz.prog.info? 64).map (·.size) = some 2 := by kernel_rfl
theorem wpList_store_txn {ops : Array Oper} {rest : List Oper} {o : Oper} {a : Act} {w : World} {Q : Exit → Act → World → Prop} (hgd : o.guard = none) (x y : Operand) (ho : o.op = .store 64 x y)
    {g n c m cm : Nat} {ad am : Option Addr} (hx : a.eval x = .pointer (some ⟨g, 0, none⟩)) (hy : a.eval y = .agg #[.slice ad n c, .slice am m cm])
    (old : Array Value) (hold : old.size = 2) (hg : Blk g old 64 w)
    (h : ∀ w2, Blk g #[.slice ad n c, .slice am m cm] 64 w2 → Below g w w2 → w2.heap.size = w.heap.size → (∀ j, j ≠ g → w2.heap[j]? = w.heap[j]?) → wpList Tryz.prog ops Q rest (a.put o.dst undef) w2) : wpList Tryz.prog ops Q (o :: rest) a w :=
  wpList_store_row hgd _ x y ho g #[.slice ad n c, .slice am m cm] hx hy _ _ hg txn_info hold (by simp [Value.oneCell'])
    (h _ (setRow_heap w g _ _ _ _ hg) ⟨rfl, rfl, rfl, by simp, fun j hj => setRow_other w g j _ (by omega)⟩ (by simp) (fun j hj => setRow_other w g j _ hj))
end Go.Proofs.YtanghmogeiiooaaGreatDoor
