import Derived.Test.YtanghmogeiiooaaGreatDoorPa20
import Derived.Test.YtanghmogeiiooaaGreatDoorPa02
import Derived.Test.YtanghmogeiiooaaGreatDoorPa01
import Derived.Test.YtanghmogeiiooaaGreatDoorPa08
set_option linter.unusedVariables false
set_option linter.unusedSimpArgs false
set_option linter.constructorNameAsVariable false
/- A log: missing, refused, Room, Next. -/
namespace Go.Proofs.YtanghmogeiiooaaGreatDoor
set_option linter.unusedVariables false
open Go.RowKit

/-- a log: a ring, itself, the place behind its transactions, what failed -/
abbrev logC (d : Nat) (b l i la ma ml ta tl da : Int) (self : Option Addr) (slot left : Int) (seq : Nat) (failed : Int) : Array Value :=
  #[.pointer (some ⟨d, 0, none⟩), .int .i64 b, .int .i64 l, .int .i64 i, .int .i64 la, .int .i64 ma, .int .i64 ml, .int .i64 ta, .int .i64 tl, .int .i64 da, .pointer self, .int .i64 slot, .int .i64 left, .int .u64 (seq : Int), .int .i64 failed]
abbrev LogAt (g d : Nat) (b l i la ma ml ta tl da : Int) (slot left : Int) (seq : Nat) (failed : Int) (w : World) : Prop := Blk g (logC d b l i la ma ml ta tl da (some ⟨g, 0, none⟩) slot left seq failed) 102 w
theorem LogAt.cells {g d : Nat} {b l i la ma ml ta tl da slot left : Int} {seq : Nat} {failed : Int} {w : World} (h : LogAt g d b l i la ma ml ta tl da slot left seq failed w) :
    w.cell? ⟨g, 0, none⟩ = some (.pointer (some ⟨d, 0, none⟩)) ∧ w.cell? ⟨g, 1, none⟩ = some (.int .i64 b) ∧ w.cell? ⟨g, 2, none⟩ = some (.int .i64 l) ∧ w.cell? ⟨g, 3, none⟩ = some (.int .i64 i) ∧ w.cell? ⟨g, 4, none⟩ = some (.int .i64 la) ∧
    w.cell? ⟨g, 5, none⟩ = some (.int .i64 ma) ∧ w.cell? ⟨g, 6, none⟩ = some (.int .i64 ml) ∧ w.cell? ⟨g, 7, none⟩ = some (.int .i64 ta) ∧ w.cell? ⟨g, 8, none⟩ = some (.int .i64 tl) ∧ w.cell? ⟨g, 9, none⟩ = some (.int .i64 da) ∧
    w.cell? ⟨g, 10, none⟩ = some (.pointer (some ⟨g, 0, none⟩)) ∧ w.cell? ⟨g, 11, none⟩ = some (.int .i64 slot) ∧ w.cell? ⟨g, 12, none⟩ = some (.int .i64 left) ∧ w.cell? ⟨g, 13, none⟩ = some (.int .u64 (seq : Int)) ∧ w.cell? ⟨g, 14, none⟩ = some (.int .i64 failed) :=
  ⟨h.cell 0, h.cell 1, h.cell 2, h.cell 3, h.cell 4, h.cell 5, h.cell 6, h.cell 7, h.cell 8, h.cell 9, h.cell 10, h.cell 11, h.cell 12, h.cell 13, h.cell 14⟩
theorem lognil_any (w : World) : Calls Tryz.prog 43 #[.pointer none] w fun e w' => e = .returned (.bool true) ∧ w = w' := by
  go_enter Tryz.func43, Tryz.ntmps43
  go_wp2
  go_ret
  exact ⟨rfl, rfl⟩
theorem log_size : (Tryz.prog.info? 102).map (·.size) = some 15 := by kernel_rfl
theorem equal_log (w : World) (p : Addr) : ∀ d, (Op.equalIn (d + 1) 35 (.pointer (some p)) (.pointer (some p))).run Tryz.prog w = .ok true w := fun d => by
  obtain ⟨i, hi, hs⟩ := Option.map_eq_some_iff.1 log_size
  simp [Op.equalIn, run_underlying Tryz.underlying35, sizeOf, typeInfo, hi, sameAddr]
theorem run_neq_log (w : World) (p : Addr) : (binOp .neq 35 (.pointer (some p)) (.pointer (some p))).run Tryz.prog w = .ok (.bool false) w := by
  have h : (Op.equal 35 (.pointer (some p)) (.pointer (some p))).run Tryz.prog w = .ok true w := equal_log w p 9999
  simp only [binOp]
  simp [h]
set_option maxRecDepth 100000 in
theorem logthere_any (g d : Nat) (b l i la ma ml ta tl da slot left : Int) (seq : Nat) (failed : Int) (w : World) (h : LogAt g d b l i la ma ml ta tl da slot left seq failed w) :
    Calls Tryz.prog 43 #[.pointer (some ⟨g, 0, none⟩)] w fun e w' => e = .returned (.bool false) ∧ w = w' := by
  have c10 := h.cells.2.2.2.2.2.2.2.2.2.2.1
  have hq := run_neq_log
  clear h
  go_enter Tryz.func43, Tryz.ntmps43
  go_wp2
  go_ret
  exact ⟨rfl, rfl⟩
theorem logroom_nil (w : World) : Calls Tryz.prog 17 #[.pointer none] w fun e w' => e = .returned (.int .i64 0) ∧ w = w' := by
  have M := Lib.hid (lognil_any w)
  go_enter Tryz.func17, Tryz.ntmps17
  go_wp2_with fail
  refine M.out.mono ?_; rintro e w1 ⟨rfl, rfl⟩
  go_wp2
  go_ret
  exact ⟨rfl, rfl⟩
theorem lognext_nil (w : World) : Calls Tryz.prog 23 #[.pointer none] w fun e w' => e = .returned (.int .u64 0) ∧ w = w' := by
  have M := Lib.hid (lognil_any w)
  go_enter Tryz.func23, Tryz.ntmps23
  go_wp2_with fail
  refine M.out.mono ?_; rintro e w1 ⟨rfl, rfl⟩
  go_wp2
  go_ret
  exact ⟨rfl, rfl⟩
theorem logrefused_nil (w : World) : Calls Tryz.prog 44 #[.pointer none] w fun e w' => e = .returned (.int .i64 1) ∧ w = w' := by
  have M := Lib.hid (lognil_any w)
  go_enter Tryz.func44, Tryz.ntmps44
  go_wp2_with fail
  refine M.out.mono ?_; rintro e w1 ⟨rfl, rfl⟩
  go_wp2
  go_ret
  exact ⟨rfl, rfl⟩
theorem logroom_any (g d : Nat) (b l i la ma ml ta tl da slot left : Int) (seq : Nat) (failed : Int) (w : World) (h : LogAt g d b l i la ma ml ta tl da slot left seq failed w) :
    Calls Tryz.prog 17 #[.pointer (some ⟨g, 0, none⟩)] w fun e w' => e = .returned (.int .i64 left) ∧ w = w' := by
  have M := Lib.hid (logthere_any g d b l i la ma ml ta tl da slot left seq failed w h)
  have c12 := h.cells.2.2.2.2.2.2.2.2.2.2.2.2.1
  clear h
  go_enter Tryz.func17, Tryz.ntmps17
  go_wp2_with fail
  refine M.out.mono ?_; rintro e w1 ⟨rfl, rfl⟩
  go_wp2
  go_ret
  exact ⟨rfl, rfl⟩
theorem lognext_any (g d : Nat) (b l i la ma ml ta tl da slot left : Int) (seq : Nat) (failed : Int) (w : World) (h : LogAt g d b l i la ma ml ta tl da slot left seq failed w) :
    Calls Tryz.prog 23 #[.pointer (some ⟨g, 0, none⟩)] w fun e w' => e = .returned (.int .u64 (seq : Int)) ∧ w = w' := by
  have M := Lib.hid (logthere_any g d b l i la ma ml ta tl da slot left seq failed w h)
  have c13 := h.cells.2.2.2.2.2.2.2.2.2.2.2.2.2.1
  clear h
  go_enter Tryz.func23, Tryz.ntmps23
  go_wp2_with fail
  refine M.out.mono ?_; rintro e w1 ⟨rfl, rfl⟩
  go_wp2
  go_ret
  exact ⟨rfl, rfl⟩
theorem logrefused_any (g d : Nat) (b l i la ma ml ta tl da slot left : Int) (seq : Nat) (failed : Int) (w : World) (h : LogAt g d b l i la ma ml ta tl da slot left seq failed w) :
    Calls Tryz.prog 44 #[.pointer (some ⟨g, 0, none⟩)] w fun e w' => e = .returned (.int .i64 failed) ∧ w = w' := by
  have M := Lib.hid (logthere_any g d b l i la ma ml ta tl da slot left seq failed w h)
  have c14 := h.cells.2.2.2.2.2.2.2.2.2.2.2.2.2.2
  clear h
  go_enter Tryz.func44, Tryz.ntmps44
  go_wp2_with fail
  refine M.out.mono ?_; rintro e w1 ⟨rfl, rfl⟩
  go_wp2
  go_ret
  exact ⟨rfl, rfl⟩
end Go.Proofs.YtanghmogeiiooaaGreatDoor

/- changed, inSlots, validChanges; Size. -/
namespace Go.Proofs.YtanghmogeiiooaaGreatDoor
set_option linter.unusedVariables false
open Go.RowKit

theorem wpList_appIq {ops : Array Oper} {rest : List Oper} {o : Oper} {a : Act} {Q : Exit → Act → World → Prop} {w : World} (hgd : o.guard = none) (s x : Operand)
    (ho : o.op = .call { callee := .builtin .append, args := #[s, x], argTypes := #[56, 56] })
    (base : Nat) (v : Value) (L : List Int) (k : Int) (hs : a.eval s = v) (hown : IntsOwn base v L w) (W : World) (hW : w = W.alloc (.cells #[.int .i64 k] 3)) (q : Nat) (hq : W.heap.size = q) (hx : a.eval x = .slice (some ⟨q, 0, none⟩) 1 1)
    (hlen : L.length ≤ 4000000) (hbase : base ≤ w.heap.size)
    (h : ∀ v' w', IntsOwn base v' (L ++ [k]) w' → Below base w w' → wpList Tryz.prog ops Q rest (a.put o.dst v') w') : wpList Tryz.prog ops Q (o :: rest) a w := by
  subst hq
  exact wpList_appI hgd s x ho base v L k hs hown W hW hx hlen hbase h
theorem take_map_succ {α β : Type} (f : α → β) {L : List α} {k : Nat} (hk : k < L.length) : (L.take (k + 1)).map f = (L.take k).map f ++ [f L[k]] := by
  rw [List.take_add_one, List.getElem?_eq_getElem hk, Option.toList_some, List.map_append]; rfl
set_option maxRecDepth 100000 in
set_option maxHeartbeats 4000000 in
theorem changed_any (L : List (Int × ByteArray)) (hL : L.length ≤ 4000) (v : Value) (w : World) (hv : ChgsIn v L w) :
    Calls Tryz.prog 73 #[v] w fun e w' => ∃ v', e = .returned v' ∧ IntsOwn w.heap.size v' (L.map Prod.fst) w' ∧ Below w.heap.size w w' := by
  obtain ⟨ad, cap, rfl, h1, h2, h3⟩ := hv.open
  have H3 := Lib.hid h3
  clear h3 hv
  go_enter Tryz.func73, Tryz.ntmps73
  go_wp2
  go_loopw [3, 8] (fun v q wr => ∃ k : Nat, q = .int .i64 k ∧ k ≤ L.length ∧ IntsOwn w.heap.size v ((L.take k).map Prod.fst) wr ∧ Below w.heap.size w wr) (fun _ q _ => L.length - (intOf q).toNat)
  case atStart => exact ⟨0, rfl, Nat.zero_le _, World.ownsRow_nil _ _ _ _, Below.refl _ _⟩
  case round =>
    obtain ⟨k, rfl, hk, hV, hB⟩ := hrel
    have hln : ((L.take k).map Prod.fst).length = k := by rw [List.length_map, List.length_take]; omega
    obtain ⟨av, cv, rfl, -⟩ := shape_of hV
    rw [hln] at hV ⊢
    by_cases hlt : k < L.length
    · obtain ⟨g, o, rfl, hg, hc⟩ := H3.out (by omega)
      obtain ⟨c0, c1⟩ := hc k hlt
      have c0 := (hB.cell (p := ⟨g, o + k * 2, none⟩) hg).trans c0
      have c1 := (hB.cell (p := ⟨g, o + k * 2 + 1, none⟩) hg).trans c1
      have HSN := Lib.hid (take_map_succ Prod.fst hlt)
      have HV := Lib.hid hV
      have HB := Lib.hid hB
      have hbs := hB.size
      clear hc hV hB H3
      generalize L[k] = c at *
      obtain ⟨cx, cs⟩ := c
      dsimp only at *
      go_wp2_with (at_builtin; refine wpList_appIq rfl _ _ rfl w.heap.size _ ((L.take k).map Prod.fst) cx rfl (World.ownsRow.alloc (World.ownsRow.alloc HV.out _) _) (wr.alloc (.cells #[.int .i64 cx, .string cs] 61)) rfl (wr.heap.size + 1) (size_alloc _ _) rfl (by omega) (by rw [size_alloc, size_alloc]; omega) ?_)
      intro v5 w5 hv5 b5
      have HN : Hid (IntsOwn w.heap.size v5 ((L.take (k + 1)).map Prod.fst) w5) := Lib.hid (by rw [HSN.out]; (try rw [List.map_take]); exact hv5)
      have HB5 := Lib.hid ((balloc (balloc HB.out (.cells #[.int .i64 cx, .string cs] 61)) _).trans b5)
      clear hv5 b5 HV HB HSN c0 c1
      go_wp2
      exact ⟨⟨k + 1, by go_num, by omega, HN.out, HB5.out⟩, by simp [intOf]; omega⟩
    · obtain rfl : k = L.length := by omega
      have HV := Lib.hid hV
      have HB := Lib.hid hB
      clear hV hB H3
      go_wp2
      go_ret
      have := HV.out
      rw [List.take_length] at this
      exact ⟨_, rfl, this, HB.out⟩
/-- v is a slice of texts, wherever it lies -/
abbrev TextsIn (v : Value) (L : List ByteArray) (w : World) : Prop := RowIn 1 v L.length (L.map Value.string) w
def slotsOf (la l : Int) (slot : Nat) (L : List ByteArray) (k : Nat) : List (Int × ByteArray) := (List.range k).map fun i => (la + 1 + ((slot + i : Nat) : Int) % (l - 1), (L[i]?).getD ⟨#[]⟩)
theorem slotsOf_succ (la l : Int) (slot : Nat) (L : List ByteArray) (k : Nat) (hk : k < L.length) : slotsOf la l slot L (k + 1) = slotsOf la l slot L k ++ [(la + 1 + ((slot + k : Nat) : Int) % (l - 1), L[k])] := by
  unfold slotsOf; rw [List.range_succ, List.map_append, List.map_singleton, List.getElem?_eq_getElem hk]; rfl
theorem slotsOf_length (la l : Int) (slot : Nat) (L : List ByteArray) (k : Nat) : (slotsOf la l slot L k).length = k := by unfold slotsOf; simp
set_option maxRecDepth 100000 in
set_option maxHeartbeats 4000000 in
theorem inslots_any (d : Option Addr) (b l i la ma ml ta tl da : Int) (hl : 128 ≤ l ∧ l ≤ 512) (hla : 0 ≤ la ∧ la ≤ 4096) (slot : Nat) (L : List ByteArray) (hs : slot + L.length ≤ 4000) (v : Value) (w : World) (hv : TextsIn v L w) :
    Calls Tryz.prog 47 #[ringV d b l i la ma ml ta tl da, .int .i64 (slot : Int), v] w fun e w' => ∃ v', e = .returned v' ∧ ChgsOwn w.heap.size v' (slotsOf la l slot L L.length) w' ∧ Below w.heap.size w w' := by
  obtain ⟨ad, cap, rfl, h1, h2, h3, -⟩ := hv.shape
  have H3 := Lib.hid (row_cells h3)
  have BL := Lib.hid (jblock_any d b l i la ma ml ta tl da hl hla)
  have R0 := Lib.hid (RingAt.new d b l i la ma ml ta tl da w)
  have hb0 := balloc1 w (.cells (ringC d b l i la ma ml ta tl da) 87)
  have HSC := Lib.hid (slotsOf_succ la l slot L)
  have HSL := Lib.hid (slotsOf_length la l slot L)
  have HB0 := Lib.hid hb0
  have HS0 : Hid (slotsOf la l slot L 0 = []) := Lib.hid rfl
  obtain ⟨SO, hSO⟩ : ∃ SO : Nat → List (Int × ByteArray), slotsOf la l slot L = SO := ⟨_, rfl⟩
  rw [hSO] at HSC HSL HS0
  rw [hSO]
  clear h3 hv hb0 hSO
  go_enter Tryz.func47, Tryz.ntmps47
  go_wp2
  go_loopw [7, 12] (fun v q wr => ∃ k : Nat, q = .int .i64 k ∧ k ≤ L.length ∧ ChgsOwn (w.heap.size + 1) v (SO k) wr ∧ RingAt w.heap.size d b l i la ma ml ta tl da wr ∧ Below w.heap.size w wr) (fun _ q _ => L.length - (intOf q).toNat)
  case atStart => exact ⟨0, rfl, Nat.zero_le _, by rw [HS0.out]; exact World.ownsRow_nil _ _ _ _, R0.out, HB0.out⟩
  case round =>
    clear R0 HB0 HS0
    obtain ⟨k, rfl, hk, hV, hR, hB⟩ := hrel
    have hln := HSL.out k
    obtain ⟨av, cv, rfl, -⟩ := shape_of hV
    rw [hln] at hV ⊢
    by_cases hlt : k < L.length
    · obtain ⟨g, o, rfl, hg, hc⟩ := H3.out (by omega)
      have c0 := (hB.cell (p := ⟨g, o + k, none⟩) hg).trans (hc k hlt)
      obtain ⟨r0, r1, r2, r3, r4, r5, r6, r7, r8, r9⟩ := hR.cells
      have HSK := Lib.hid (HSC.out k hlt)
      have BW := BL.out (slot + k) (by omega) wr
      rw [show ((slot + k : Nat) : Int) = (slot : Int) + (k : Int) by omega] at BW
      have BW := Lib.hid BW
      have HV := Lib.hid hV
      have HR := Lib.hid hR
      have HB := Lib.hid hB
      have hrl := hR.lt
      have hNE : Hid ((la + 1 + ((slot + k : Nat) : Int) % (l - 1)) = (la + 1 + ((slot : Int) + (k : Int)) % (l - 1))) := Lib.hid (by rw [Int.natCast_add])
      obtain ⟨T, hT⟩ : ∃ T, L[k] = T := ⟨_, rfl⟩
      obtain ⟨bk, hbk⟩ : ∃ bk, la + 1 + ((slot : Int) + (k : Int)) % (l - 1) = bk := ⟨_, rfl⟩
      rw [hbk] at BW hNE
      rw [hNE.out, hT] at HSK
      rw [hT] at c0
      clear hc hV hR hB hT hbk hNE
      go_wp2_with fail
      refine BW.out.mono ?_; rintro e w2 ⟨rfl, b2⟩
      have HV2 := Lib.hid (row_kept HV.out b2)
      have HR2 := Lib.hid (HR.out.kept1 b2)
      have HB2 := Lib.hid (bnext HB.out b2)
      have hb2 := b2.size
      clear HV HR HB b2 BW r0 r1 r2 r3 r4 r5 r6 r7 r8 r9 c0
      go_wp2_with (at_builtin; refine wpList_appC rfl _ _ rfl (w.heap.size + 1) _ (SO k) (bk, T) rfl (World.ownsRow.alloc HV2.out _) w2 rfl rfl (by omega) (by rw [size_alloc]; omega) ?_)
      intro v5 w5 hv5 b5
      have HN : Hid (ChgsOwn (w.heap.size + 1) v5 (SO (k + 1)) w5) := Lib.hid (by rw [HSK.out]; exact hv5)
      have HR5 : Hid (RingAt w.heap.size d b l i la ma ml ta tl da w5) := Lib.hid ((HR2.out.kept1 (balloc1 _ _)).kept b5 (Nat.lt_succ_self _))
      have HB5 := Lib.hid ((balloc HB2.out _).trans (b5.mono (Nat.le_succ _)))
      clear hv5 b5 HV2 HR2 HB2 HSK
      go_wp2
      exact ⟨⟨k + 1, by go_num, by omega, HN.out, HR5.out, HB5.out⟩, by simp [intOf]; omega⟩
    · obtain rfl : k = L.length := by omega
      have HV := Lib.hid hV
      have HB := Lib.hid hB
      clear hV hB hR H3
      go_wp2
      go_ret
      exact ⟨_, rfl, row_down (Nat.le_succ _) HV.out, HB.out⟩
end Go.Proofs.YtanghmogeiiooaaGreatDoor

/- described: a descriptor's block and its data blocks. -/
namespace Go.Proofs.YtanghmogeiiooaaGreatDoor
set_option linter.unusedVariables false
open Go.RowKit

theorem str_info : (Tryz.prog.info? 9).map (fun i => (i.zero, i.size, i.bytes)) = some (some (.string ⟨#[]⟩), 1, 16) := by kernel_rfl
abbrev TextsOwn (B : Nat) (v : Value) (L : List ByteArray) (w : World) : Prop := w.ownsRow B 9 1 v L.length (L.map Value.string)
abbrev dscC (seq : Nat) (vh vm : Value) : Array Value := #[.int .i64 2, .int .u64 (seq : Int), .int .i64 0, vh, vm, .int .u32 0]
/-- what described's own memory holds -/
structure DM (w0 : World) (seq : Nat) (H : List Int) (K : List Bool) (T : List ByteArray) (vh vm vl : Value) (W : World) : Prop where
  blk : Blk w0.heap.size (dscC seq vh vm) 134 W
  hs : IntsOwn (w0.heap.size + 1) vh H W
  ms : BoolsOwn (w0.heap.size + 1) vm K W
  ls : TextsOwn (w0.heap.size + 1) vl T W
  below : Below w0.heap.size w0 W
theorem DM.kept {w0 W W' : World} {seq : Nat} {H : List Int} {K : List Bool} {T : List ByteArray} {vh vm vl : Value} (h : DM w0 seq H K T vh vm vl W) (b : Below W.heap.size W W') : DM w0 seq H K T vh vm vl W' :=
  ⟨h.blk.kept1 b, row_kept h.hs b, row_kept h.ms b, row_kept h.ls b, bnext h.below b⟩
theorem DM.alloc {w0 W : World} {seq : Nat} {H : List Int} {K : List Bool} {T : List ByteArray} {vh vm vl : Value} (h : DM w0 seq H K T vh vm vl W) (o : Obj) : DM w0 seq H K T vh vm vl (W.alloc o) := h.kept (balloc1 _ _)
theorem DM.grown {w0 W W' : World} {seq : Nat} {H : List Int} {K : List Bool} {T : List ByteArray} {vh vm vl : Value} (h : DM w0 seq H K T vh vm vl W) {e : TypeId} {v : Value} {n : Nat} {xs : List Value} (k : W.ownsRow (w0.heap.size + 1) e 1 v n xs) (hg : W.grownBy W' v.ownBlock) :
    Blk w0.heap.size (dscC seq vh vm) 134 W' ∧ Below w0.heap.size w0 W' :=
  ⟨blk_stays h.blk k (Nat.lt_succ_self _) hg (v' := v), h.below.trans ((below_of_row k hg (by have := h.blk.lt; omega)).mono (Nat.le_succ _))⟩
theorem DM.putH {w0 W W' : World} {seq : Nat} {H : List Int} {K : List Bool} {T : List ByteArray} {vh vm vl v' : Value} {x : Int} (h : DM w0 seq H K T vh vm vl W) (hr : W'.ownsRow (w0.heap.size + 1) 3 1 v' (H.length + 1) (H.map (Value.int .i64) ++ [.int .i64 x])) (hg : W.grownBy W' vh.ownBlock) :
    DM w0 seq (H ++ [x]) K T v' vm vl (W'.setCell ⟨w0.heap.size, 3, none⟩ v') := by
  obtain ⟨b1, b2⟩ := h.grown h.hs hg
  refine ⟨?_, ?_, row_setlow (kept_kinds h.hs h.ms (by decide) hg) (by omega), row_setlow (kept_kinds h.hs h.ls (by decide) hg) (by omega), b2.setCell (Nat.le_refl _) _⟩
  · have := b1.set 3 v'; simpa using this
  · have : IntsOwn (w0.heap.size + 1) v' (H ++ [x]) W' := by
      show W'.ownsRow _ _ _ _ (H ++ [x]).length ((H ++ [x]).map _); rw [List.length_append, List.map_append]; exact hr
    exact row_setlow this (by omega)
theorem DM.putM {w0 W W' : World} {seq : Nat} {H : List Int} {K : List Bool} {T : List ByteArray} {vh vm vl v' : Value} {x : Bool} (h : DM w0 seq H K T vh vm vl W) (hr : W'.ownsRow (w0.heap.size + 1) 4 1 v' (K.length + 1) (K.map Value.bool ++ [.bool x])) (hg : W.grownBy W' vm.ownBlock) :
    DM w0 seq H (K ++ [x]) T vh v' vl (W'.setCell ⟨w0.heap.size, 4, none⟩ v') := by
  obtain ⟨b1, b2⟩ := h.grown h.ms hg
  refine ⟨?_, row_setlow (kept_kinds h.ms h.hs (by decide) hg) (by omega), ?_, row_setlow (kept_kinds h.ms h.ls (by decide) hg) (by omega), b2.setCell (Nat.le_refl _) _⟩
  · have := b1.set 4 v'; simpa using this
  · have : BoolsOwn (w0.heap.size + 1) v' (K ++ [x]) W' := by
      show W'.ownsRow _ _ _ _ (K ++ [x]).length ((K ++ [x]).map _); rw [List.length_append, List.map_append]; exact hr
    exact row_setlow this (by omega)
theorem DM.putL {w0 W W' : World} {seq : Nat} {H : List Int} {K : List Bool} {T : List ByteArray} {vh vm vl v' : Value} {x : ByteArray} (h : DM w0 seq H K T vh vm vl W) (hr : W'.ownsRow (w0.heap.size + 1) 9 1 v' (T.length + 1) (T.map Value.string ++ [.string x])) (hg : W.grownBy W' vl.ownBlock) :
    DM w0 seq H K (T ++ [x]) vh vm v' W' := by
  obtain ⟨b1, b2⟩ := h.grown h.ls hg
  refine ⟨b1, kept_kinds h.ls h.hs (by decide) hg, kept_kinds h.ls h.ms (by decide) hg, ?_, b2⟩
  show W'.ownsRow _ _ _ _ (T ++ [x]).length ((T ++ [x]).map _); rw [List.length_append, List.map_append]; exact hr
/-- one element is put behind a row, whatever it is; other rows and blocks as grownBy says -/
theorem wpList_appX {ops : Array Oper} {rest : List Oper} {o : Oper} {a : Act} {Q : Exit → Act → World → Prop} {w : World} (hgd : o.guard = none) (s x : Operand) (T e : TypeId) (z : Value) (bytes : Nat)
    (ho : o.op = .call { callee := .builtin .append, args := #[s, x], argTypes := #[T, T] }) (ht : Tryz.prog.underlying T = some (.slice e)) (hinf : (Tryz.prog.info? e).map (fun i => (i.zero, i.size, i.bytes)) = some (some z, 1, bytes)) (hzs : z.cells.size = 1) (hby : bytes ≤ 16)
    (base : Nat) (v : Value) (n : Nat) (xs : List Value) (u : Value) (hu : u.oneCell' = true) (hs : a.eval s = v) (hown : w.ownsRow base e 1 v n xs) (W : World) (hW : w = W.alloc (.cells #[u] e)) (q : Nat) (hq : W.heap.size = q) (hx : a.eval x = .slice (some ⟨q, 0, none⟩) 1 1)
    (hlen : n ≤ 4000) (hbase : base ≤ w.heap.size)
    (h : ∀ v' w', w'.ownsRow base e 1 v' (n + 1) (xs ++ [u]) → w.grownBy w' v.ownBlock → wpList Tryz.prog ops Q rest (a.put o.dst v') w') : wpList Tryz.prog ops Q (o :: rest) a w := by
  obtain ⟨i0, hi, hz0, hz1, hz2⟩ := info_parts hinf
  subst hW
  subst hq
  have hbyt : (n + 1) * bytes ≤ 140737488355328 := by
    have : (n + 1) * bytes ≤ 4001 * 16 := Nat.mul_le_mul (by omega) hby
    omega
  refine wpList_append_own (w := W.alloc (.cells #[u] e)) hgd s x T ho base e i0 z 1 bytes ht hi hz0 hz1 hz2 hzs (by decide) v _ _ hs hown ⟨W.heap.size, 0, none⟩ 1 1 [u] hx rfl (knew_one W _ _) (fun y hy => by simp at hy; subst hy; exact hu) (by unfold maxLen; omega) hbyt hbase ?_
  intro v' w' h1 h2 _
  exact h v' w' h1 h2
set_option maxRecDepth 100000 in
set_option maxHeartbeats 8000000 in
theorem described_any (seq : Nat) (hq : seq < 18446744073709551616) (G : List (Int × ByteArray)) (hG : HomesOk (G.map Prod.fst) 24) (hd : ∀ c ∈ G, c.2.size ≤ maxLen) (v : Value) (w : World) (hv : ChgsIn v G w) :
    Calls Tryz.prog 78 #[v, .int .u64 (seq : Int)] w fun e w' => ∃ v', e = .returned v' ∧ TextsOwn w.heap.size v' (descB seq G) w' ∧ Below w.heap.size w w' := by
  have gr : Tryz.prog.stoodInHeld 134 = false := by kernel_rfl
  obtain ⟨ad, cap, rfl, h1, h2, h3⟩ := hv.open
  have hlen : G.length ≤ 24 := by have := hG.2.1; rw [List.length_map] at this; omega
  have H3 := Lib.hid h3
  have MK : Hid (∀ k (hk : k < G.length) (w : World), Calls Tryz.prog 103 #[.string G[k].2] w fun e w' => e = .returned (.tuple #[.string (maskV G[k].2), .bool (decide (Begins G[k].2))]) ∧ w = w') := Lib.hid fun k hk w => mask_any G[k].2 (hd _ (List.getElem_mem hk)) w
  have HG := Lib.hid hG
  have HM0 : Hid (DM w seq ((G.take 0).map Prod.fst) ((G.take 0).map fun c => decide (Begins c.2)) ((G.take 0).map fun c => maskV c.2) (.slice none 0 0) (.slice none 0 0) (.slice none 0 0) (w.alloc (.cells #[.int .i64 2, .int .u64 (seq : Int), .int .i64 0, .slice none 0 0, .slice none 0 0, .int .u32 0] 134))) :=
    Lib.hid ⟨Blk.new _ _ w, World.ownsRow_nil _ _ _ _, World.ownsRow_nil _ _ _ _, World.ownsRow_nil _ _ _ _, balloc1 w _⟩
  clear h3 hv hd hG
  go_enter Tryz.func78, Tryz.ntmps78
  go_wp2
  go_loopw [6, 15] (fun v q wr => ∃ (k : Nat) (vh vm : Value), q = .int .i64 k ∧ k ≤ G.length ∧ DM w seq ((G.take k).map Prod.fst) ((G.take k).map fun c => decide (Begins c.2)) ((G.take k).map fun c => maskV c.2) vh vm v wr) (fun _ q _ => G.length - (intOf q).toNat)
  case atStart => exact ⟨0, _, _, rfl, Nat.zero_le _, HM0.out⟩
  case round =>
    clear HM0
    obtain ⟨k, vh, vm, rfl, hk, M⟩ := hrel
    have l1 : ((G.take k).map Prod.fst).length = k := by rw [List.length_map, List.length_take]; omega
    have l2 : ((G.take k).map fun c => decide (Begins c.2)).length = k := by rw [List.length_map, List.length_take]; omega
    have l3 : ((G.take k).map fun c => maskV c.2).length = k := by rw [List.length_map, List.length_take]; omega
    obtain ⟨a1, c1, rfl, -⟩ := shape_of M.hs
    obtain ⟨a2, c2, rfl, -⟩ := shape_of M.ms
    obtain ⟨a3, c3, rfl, -⟩ := shape_of M.ls
    by_cases hlt : k < G.length
    · obtain ⟨g, o, rfl, hg, hc⟩ := H3.out (by omega)
      obtain ⟨e0, e1⟩ := hc k hlt
      have e0 := (M.below.cell (p := ⟨g, o + k * 2, none⟩) hg).trans e0
      have e1 := (M.below.cell (p := ⟨g, o + k * 2 + 1, none⟩) hg).trans e1
      have s1 := Lib.hid (take_map_succ Prod.fst hlt)
      have s2 := Lib.hid (take_map_succ (fun c => decide (Begins c.2)) hlt)
      have s3 := Lib.hid (take_map_succ (fun c => maskV c.2) hlt)
      have MW := Lib.hid (MK.out k hlt)
      generalize G[k] = c at *
      obtain ⟨cx, cs⟩ := c
      dsimp only at *
      generalize (G.take k).map Prod.fst = H at *
      generalize (G.take k).map (fun c => decide (Begins c.2)) = K at *
      generalize (G.take k).map (fun c => maskV c.2) = T at *
      generalize maskV cs = ms at *
      generalize decide (Begins cs) = β at *
      rw [l1, l2, l3] at M
      rw [l3]
      have HM := Lib.hid M
      have HM1 := Lib.hid (M.alloc (.cells #[.int .i64 cx, .string cs] 61))
      have b3 := HM1.out.blk.cell 3
      have b4 := HM1.out.blk.cell 4
      simp only [List.getElem?_toArray, List.getElem?_cons_zero, List.getElem?_cons_succ] at b3 b4
      have hbz := M.blk.lt
      clear M HM hc H3
      go_wp2_with fail
      refine (MW.out _).mono ?_; rintro e w2 ⟨rfl, rfl⟩
      have HRA : Hid (((wr.alloc (.cells #[.int .i64 cx, .string cs] 61)).alloc (.cells #[.int .i64 cx] 3)).ownsRow (w.heap.size + 1) 3 1 (.slice a1 k c1) k (H.map (Value.int .i64))) := Lib.hid (by
        have q : ((wr.alloc (.cells #[.int .i64 cx, .string cs] 61)).alloc (.cells #[.int .i64 cx] 3)).ownsRow (w.heap.size + 1) 3 1 (.slice a1 k c1) H.length (H.map (Value.int .i64)) := (HM1.out.alloc _).hs
        rw [l1] at q; exact q)
      have HM2 := Lib.hid (HM1.out.alloc (.cells #[.int .i64 cx] 3))
      go_wp2_with (at_builtin; refine wpList_appX rfl _ _ 56 3 (.int .i64 0) 8 rfl Tryz.underlying56 kint_info rfl (by decide) (w.heap.size + 1) _ k (H.map (Value.int .i64)) (.int .i64 cx) rfl rfl HRA.out (wr.alloc (.cells #[.int .i64 cx, .string cs] 61)) rfl (wr.heap.size + 1) (size_alloc _ _) rfl (by omega) (by rw [size_alloc, size_alloc]; omega) ?_)
      intro v5 w5 hr5 hg5
      obtain ⟨a5, c5, rfl, -⟩ := shape_of hr5
      have B5 := HM2.out.grown HM2.out.hs hg5
      have HM5 := Lib.hid (HM2.out.putH (x := cx) (by rw [l1]; exact hr5) hg5)
      have q1 := B5.1.cell 3
      have q2 := B5.1.frozen 3
      have q3 := HM5.out.blk.cell 4
      simp only [List.getElem?_toArray, List.getElem?_cons_zero, List.getElem?_cons_succ] at q1 q3
      clear hr5 hg5 B5 HRA HM1 HM2 b3 b4
      have HRB : Hid (((w5.setCell ⟨w.heap.size, 3, none⟩ (.slice a5 (k + 1) c5)).alloc (.cells #[.bool β] 4)).ownsRow (w.heap.size + 1) 4 1 (.slice a2 k c2) k (K.map Value.bool)) := Lib.hid (by
        have q : ((w5.setCell ⟨w.heap.size, 3, none⟩ (.slice a5 (k + 1) c5)).alloc (.cells #[.bool β] 4)).ownsRow (w.heap.size + 1) 4 1 (.slice a2 k c2) K.length (K.map Value.bool) := (HM5.out.alloc _).ms
        rw [l2] at q; exact q)
      have HM6 := Lib.hid (HM5.out.alloc (.cells #[.bool β] 4))
      go_wp2_with (at_builtin; refine wpList_appX rfl _ _ 25 4 (.bool false) 1 rfl Tryz.underlying25 kbool_info rfl (by decide) (w.heap.size + 1) _ k (K.map Value.bool) (.bool β) rfl rfl HRB.out (w5.setCell ⟨w.heap.size, 3, none⟩ (.slice a5 (k + 1) c5)) rfl w5.heap.size (ksize_set _ _ _) rfl (by omega) (by have := HM6.out.blk.lt; omega) ?_)
      intro v6 w6 hr6 hg6
      obtain ⟨a6, c6, rfl, -⟩ := shape_of hr6
      have B6 := HM6.out.grown HM6.out.ms hg6
      have HM7 := Lib.hid (HM6.out.putM (x := β) (by rw [l2]; exact hr6) hg6)
      have q1 := B6.1.cell 4
      have q2 := B6.1.frozen 4
      simp only [List.getElem?_toArray, List.getElem?_cons_zero, List.getElem?_cons_succ] at q1
      clear hr6 hg6 B6 HRB HM5 HM6 q3
      have HRC : Hid (((w6.setCell ⟨w.heap.size, 4, none⟩ (.slice a6 (k + 1) c6)).alloc (.cells #[.string ms] 9)).ownsRow (w.heap.size + 1) 9 1 (.slice a3 k c3) k (T.map Value.string)) := Lib.hid (by
        have q : ((w6.setCell ⟨w.heap.size, 4, none⟩ (.slice a6 (k + 1) c6)).alloc (.cells #[.string ms] 9)).ownsRow (w.heap.size + 1) 9 1 (.slice a3 k c3) T.length (T.map Value.string) := (HM7.out.alloc _).ls
        rw [l3] at q; exact q)
      have HM8 := Lib.hid (HM7.out.alloc (.cells #[.string ms] 9))
      go_wp2_with (at_builtin; refine wpList_appX rfl _ _ 106 9 (.string ⟨#[]⟩) 16 rfl Tryz.underlying106 str_info rfl (by decide) (w.heap.size + 1) _ k (T.map Value.string) (.string ms) rfl rfl HRC.out (w6.setCell ⟨w.heap.size, 4, none⟩ (.slice a6 (k + 1) c6)) rfl w6.heap.size (ksize_set _ _ _) rfl (by omega) (by have := HM8.out.blk.lt; omega) ?_)
      intro v7 w7 hr7 hg7
      have HM9 := Lib.hid (HM8.out.putL (x := ms) (by rw [l3]; exact hr7) hg7)
      clear hr7 hg7 HRC HM7 HM8 q1 q2
      go_wp2
      exact ⟨⟨k + 1, _, _, by go_num, by omega, by rw [s1.out, s2.out, s3.out]; exact HM9.out⟩, by simp [intOf]; omega⟩
    · obtain rfl : k = G.length := by omega
      rw [l1, l2, l3] at M
      rw [l3]
      rw [List.take_length] at M
      clear l1 l2 l3
      have hG1 : 1 ≤ G.length := by have := HG.out.1; rw [List.length_map] at this; omega
      obtain ⟨o1, o2⟩ := descR_ok hq HG.out
      have EN : Calls Tryz.prog 70 #[.agg #[.int .i64 2, .int .u64 (seq : Int), .int .i64 0, .slice a1 G.length c1, .slice a2 G.length c2, .int .u32 0]] wr fun e w' => e = .returned (.string (blk (descR seq G))) ∧ Below wr.heap.size wr w' :=
        encoded_any (descR seq G) o1 o2 (.slice a1 G.length c1) (.slice a2 G.length c2) wr ⟨own_in M.hs, own_in M.ms⟩
      have EN := Lib.hid EN
      have b0 := M.blk.cell 0
      have b1 := M.blk.cell 1
      have b2 := M.blk.cell 2
      have b3 := M.blk.cell 3
      have b4 := M.blk.cell 4
      have b5 := M.blk.cell 5
      simp only [List.getElem?_toArray, List.getElem?_cons_zero, List.getElem?_cons_succ] at b0 b1 b2 b3 b4 b5
      have HM := Lib.hid M
      have HDB := Lib.hid (descB_length seq G)
      have HDE : Hid (descB seq G = blk (descR seq G) :: G.map (fun c => maskV c.2)) := Lib.hid rfl
      generalize blk (descR seq G) = B at *
      clear M H3 MK HG o1 o2
      go_wp2_with fail
      refine EN.out.mono ?_; rintro e w2 ⟨rfl, b12⟩
      have HL2 : Hid ((w2.alloc (.cells #[.string B] 9)).ownsRow (w.heap.size + 1) 9 1 (.slice a3 G.length c3) (G.map fun c => maskV c.2).length ((G.map fun c => maskV c.2).map Value.string)) := Lib.hid ((HM.out.kept b12).alloc _).ls
      have hwz : w.heap.size ≤ w2.heap.size := ((HM.out.kept b12).below).size
      have HLB := Lib.hid (balloc (HM.out.kept b12).below (.cells #[.string B] 9))
      have HLIT : Hid ((w2.alloc (.cells #[.string B] 9)).ownsRow w.heap.size 9 1 (.slice (some ⟨w2.heap.size, 0, none⟩) 1 1) 1 [.string B]) := Lib.hid (World.ownsRow_lit w2 #[.string B] 1 hwz (by unfold maxLen; omega) rfl)
      obtain ⟨i0, hi, hz0, hz1, hz2⟩ := info_parts str_info
      have HINF := Lib.hid (And.intro hi (And.intro hz0 (And.intro hz1 hz2)))
      clear hi hz0 hz1 hz2 b0 b1 b2 b3 b4 b5 b12 EN HM
      obtain ⟨ad4, cp4, e4, -, -, h4⟩ := shape_of HL2.out
      obtain ⟨g4, rfl, -, -⟩ := h4 (by rw [List.length_map]; omega)
      injection e4 with e4 e6 e5
      subst e4
      clear h4 e5 e6
      go_wp2_with (at_builtin; refine wpList_append_own _ rfl _ _ 106 rfl w.heap.size 9 i0 (.string ⟨#[]⟩) 1 16 Tryz.underlying106 HINF.out.1 HINF.out.2.1 HINF.out.2.2.1 HINF.out.2.2.2 rfl (by decide) _ 1 [.string B] rfl HLIT.out ⟨g4, 0, none⟩ G.length c3 ((G.map fun c => maskV c.2).map Value.string) rfl (by rw [List.length_map, List.length_map]; omega) (fun j u hj => by
        have hl := (List.getElem?_eq_some_iff.1 hj).1
        rw [List.length_map] at hl
        rw [add_at, Nat.zero_add, (show (w2.alloc (.cells #[.string B] 9)).ownsRow (w.heap.size + 1) 9 1 (.slice (some ⟨g4, 0, none⟩) (G.map fun c => maskV c.2).length c3) (G.map fun c => maskV c.2).length ((G.map fun c => maskV c.2).map Value.string) from by have := HL2.out; have e : (G.map fun c => maskV c.2).length = G.length := List.length_map _; rw [e] at this ⊢; exact this).cellAt j (by omega)]; exact hj) (fun u hu => by obtain ⟨z, _, rfl⟩ := List.mem_map.1 hu; rfl) (by unfold maxLen; omega) (by omega) (by rw [size_alloc]; omega) ?_)
      intro v8 w8 h8 g8 _
      have hb8 := HLB.out.trans (below_of_row HLIT.out g8 (by rw [size_alloc]; omega))
      have HT8 : Hid (TextsOwn w.heap.size v8 (descB seq G) w8) := Lib.hid (by
        show w8.ownsRow _ _ _ _ (descB seq G).length ((descB seq G).map _)
        rw [HDB.out, HDE.out, List.map_cons, List.map_map]; exact h8)
      clear h8 g8 HLIT HL2 HLB HINF HDB HDE
      obtain ⟨a8, c8, rfl, -⟩ := shape_of HT8.out
      have HL8 : Hid ((descB seq G).length = (descB seq G).length) := Lib.hid rfl
      generalize (descB seq G).length = n8 at *
      go_wp2
      go_ret
      exact ⟨_, rfl, HT8.out, hb8⟩
end Go.Proofs.YtanghmogeiiooaaGreatDoor

/- The law's layout, and its world in memory. -/
namespace Go.Proofs.YtanghmogeiiooaaGreatDoor
set_option linter.unusedVariables false
set_option linter.unusedSimpArgs false
open Go.RowKit

/-- a layout of the law -/
structure Lay (x y z b l i m t da : Nat) : Prop where
  eb : b = 256 + x % 60
  el : l = 128 + y % 20
  ei : i = 8 + 2 * (z % 4)
  em : m = 1
  et : t = 4 + z % 4
  ed : da = 1 + l + m + t
theorem lay_mk (x y z : Nat) : ∃ b l i m t da, Lay x y z b l i m t da := ⟨_, _, _, _, _, _, rfl, rfl, rfl, rfl, rfl, rfl⟩
theorem Lay.ok {x y z b l i m t da : Nat} (h : Lay x y z b l i m t da) : okN b l i m t := by
  obtain ⟨rfl, rfl, rfl, rfl, rfl, -⟩ := h
  unfold okN; omega
set_option maxRecDepth 100000 in
set_option maxHeartbeats 4000000 in
theorem layout_any (x y z : Nat) (hx : x < 256) (hy : y < 256) (hz : z < 256) {b l i m t da : Nat} (h : Lay x y z b l i m t da) (w : World) :
    Calls Tryz.prog 28 #[.agg #[.int .u8 (x : Int), .int .u8 (y : Int), .int .u8 (z : Int)]] w fun e w' => e = .returned (lay b l i m t) ∧ Below w.heap.size w w' := by
  have L := Lib.hid (of_yes b l i m t h.ok)
  have h1 : (256 : Int) + (x : Int) % 60 = (b : Int) := by rw [h.eb]; omega
  have h2 : (128 : Int) + (y : Int) % 20 = (l : Int) := by rw [h.el]; omega
  have h3 : (8 : Int) + 2 * ((z : Int) % 4) = (i : Int) := by rw [h.ei]; omega
  have B0 := Lib.hid (balloc (balloc1 w (.cells #[.int .u8 (x : Int), .int .u8 (y : Int), .int .u8 (z : Int)] 22)) (.cells #[.int .i64 0, .int .i64 0, .int .i64 0, .int .i64 0, .int .i64 0, .int .i64 0, .int .i64 0, .int .i64 0, .int .i64 0] 33))
  obtain ⟨w2, hw2⟩ : ∃ w2, (w.alloc (.cells #[.int .u8 (x : Int), .int .u8 (y : Int), .int .u8 (z : Int)] 22)).alloc (.cells #[.int .i64 0, .int .i64 0, .int .i64 0, .int .i64 0, .int .i64 0, .int .i64 0, .int .i64 0, .int .i64 0, .int .i64 0] 33) = w2 := ⟨_, rfl⟩
  rw [hw2] at B0
  have G2 : Hid (GeoAt (w.heap.size + 1) 0 0 0 0 0 0 0 0 0 w2) := Lib.hid (by rw [← hw2]; have := GeoAt.new 0 0 0 0 0 0 0 0 0 (w.alloc (.cells #[.int .u8 (x : Int), .int .u8 (y : Int), .int .u8 (z : Int)] 22)); rw [size_alloc] at this; exact this)
  have HW := Lib.hid hw2
  clear hw2 h
  go_enter Tryz.func28, Tryz.ntmps28
  go_wp2_with fail
  rw [HW.out]
  refine (L.out _).mono ?_; rintro e w3 ⟨rfl, b3⟩
  have hb3 := bnext B0.out b3
  have hz3 := b3.size
  have G3 := Lib.hid ((G2.out.kept1 b3).kept1 (balloc1 w3 (.cells (cellsG (b : Int) (l : Int) (i : Int) 1 (1 + (l : Int)) (m : Int) (1 + (l : Int) + (m : Int)) (t : Int) (1 + (l : Int) + (m : Int) + (t : Int))) 33)))
  have hb4 := balloc hb3 (.cells (cellsG (b : Int) (l : Int) (i : Int) 1 (1 + (l : Int)) (m : Int) (1 + (l : Int) + (m : Int)) (t : Int) (1 + (l : Int) + (m : Int) + (t : Int))) 33)
  clear b3 hb3 G2 B0 HW L
  go_wp2_with (refine wpList_store_geo0 rfl _ _ rfl rfl rfl G3.out ?_)
  intro w5 h5 hl5 hs5 he5
  have hb5 := hb4.trans (hl5.mono (by omega))
  go_wp2
  exact bodyPost_ret (results_cell_row (P := Tryz.prog) rfl _ _ (w.heap.size + 1) _ _ _ _ rfl h5 Tryz.underlying33 rfl (by kernel_rfl)) rfl ⟨rfl, hb5⟩
end Go.Proofs.YtanghmogeiiooaaGreatDoor
