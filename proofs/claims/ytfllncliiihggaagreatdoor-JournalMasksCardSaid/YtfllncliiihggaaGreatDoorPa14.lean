import Derived.Test.YtfllncliiihggaaGreatDoorPa13
import Derived.Test.YtfllncliiihggaaGreatDoorPa11
set_option linter.unusedVariables false
set_option linter.unusedSimpArgs false
set_option linter.constructorNameAsVariable false
/- read: what a block says. -/
namespace Go.Proofs.YtfllncliiihggaaGreatDoor
set_option linter.unusedVariables false
open Go.RowKit

abbrev recA (k : Int) (q : Nat) (p : Int) (vh vm : Value) (s : Nat) : Value := .agg #[.int .i64 k, .int .u64 (q : Int), .int .i64 p, vh, vm, .int .u32 (s : Int)]
theorem rec_info : (Tryz.prog.info? 81).map (·.size) = some 6 := by kernel_rfl
/-- a whole record is written over one that stands in block g -/
theorem wpList_store_rec {ops : Array Oper} {rest : List Oper} {o : Oper} {a : Act} {w : World} {Q : Exit → Act → World → Prop} (hgd : o.guard = none) (x y : Operand) (ho : o.op = .store 81 x y)
    {g q s n c m cm : Nat} {k p : Int} {ad am : Option Addr} (hx : a.eval x = .pointer (some ⟨g, 0, none⟩)) (hy : a.eval y = recA k q p (.slice ad n c) (.slice am m cm) s)
    (old : Array Value) (hold : old.size = 6) (hg : Blk g old 81 w)
    (h : ∀ w2, RecAt g k q p (.slice ad n c) (.slice am m cm) s w2 → Below g w w2 → w2.heap.size = w.heap.size → (∀ j, j ≠ g → w2.heap[j]? = w.heap[j]?) → wpList Tryz.prog ops Q rest (a.put o.dst undef) w2) : wpList Tryz.prog ops Q (o :: rest) a w :=
  wpList_store_row hgd _ x y ho g #[.int .i64 k, .int .u64 (q : Int), .int .i64 p, .slice ad n c, .slice am m cm, .int .u32 (s : Int)] hx hy _ _ hg rec_info hold (by simp [Value.oneCell'])
    (h _ (setRow_heap w g _ _ _ _ hg) ⟨rfl, rfl, rfl, by simp, fun j hj => setRow_other w g j _ (by omega)⟩ (by simp) (fun j hj => setRow_other w g j _ hj))

/-- what readers tell: the record, its lists in memory of the call's own -/
def RecOwn (B : Nat) (r : Rec) (vh vm : Value) (w : World) : Prop := IntsOwn B vh r.homes w ∧ BoolsOwn B vm r.masked w
theorem RecOwn.isIn {B : Nat} {r : Rec} {vh vm : Value} {w : World} (h : RecOwn B r vh vm w) : RecIn r vh vm w := ⟨own_in h.1, own_in h.2⟩
theorem RecOwn.kept {B : Nat} {r : Rec} {vh vm : Value} {w w' : World} (h : RecOwn B r vh vm w) (hb : Below w.heap.size w w') : RecOwn B r vh vm w' := ⟨row_kept h.1 hb, row_kept h.2 hb⟩
theorem RecOwn.down {B B' : Nat} {r : Rec} {vh vm : Value} {w : World} (hB : B' ≤ B) (h : RecOwn B r vh vm w) : RecOwn B' r vh vm w := ⟨row_down hB h.1, row_down hB h.2⟩

set_option maxHeartbeats 4000000 in
theorem read_short (s : ByteArray) (hs : s.size ≤ maxLen) (h : s.size < 13) (w : World) :
    Calls Tryz.prog 120 #[.string s] w fun e w' => e = .returned (.tuple #[noR, .bool false]) ∧ Below w.heap.size w w' := by
  have gh : Tryz.prog.stoodInHeld 81 = false := by kernel_rfl
  have GS : Hid (∀ w, Calls Tryz.prog 129 #[.string s, .int .i64 5, .int .i64 8] w fun e w' => e = .returned (.tuple #[.int .u64 0, .bool false]) ∧ w = w') := Lib.hid fun w => get_no s hs (5 : Nat) (8 : Nat) (field_no (by omega)) w
  have GK : Hid (∃ (k : Int) (b : Bool), ∀ w, Calls Tryz.prog 128 #[.string s, .int .i64 4, .int .i64 1] w fun e w' => e = .returned (.tuple #[.int .i64 k, .bool b]) ∧ w = w') := Lib.hid ⟨_, _, fun w => getInt_any s hs (4 : Nat) (1 : Nat) w⟩
  obtain ⟨k, b, GK⟩ := GK.out
  have GK := Lib.hid GK
  clear h
  go_enter Tryz.func120, Tryz.ntmps120
  go_wp2_with fail
  refine (GK.out _).mono ?_; rintro e w1 ⟨rfl, rfl⟩
  go_wp2_with fail
  refine (GS.out _).mono ?_; rintro e w1 ⟨rfl, rfl⟩
  go_wp2_with (refine wpList_store_rec (q := 0) (s := 0) rfl _ _ rfl rfl rfl _ rfl (Blk.new _ _ w) ?_)
  intro w2 h2 hl2 hs2 _
  obtain ⟨y0, y1, y2, y3, y4, y5⟩ := rec_cells h2
  have hbe : Below w.heap.size w w2 := (balloc1 w _).trans hl2
  clear hl2 hs2
  go_wp2
  refine bodyPost_ret (v := .tuple #[noR, .bool false]) ?_ rfl ⟨rfl, hbe⟩
  rw [results_cell_tmp rfl]
  go_simp
set_option maxHeartbeats 4000000 in
theorem read_1 (s : ByteArray) (hs : s.size ≤ maxLen) (h : 13 ≤ s.size) (hk : kindOf s = 1) (h2 : 15 ≤ s.size) (w : World) :
    Calls Tryz.prog 120 #[.string s] w fun e w' => e = .returned (.tuple #[recA 1 (leN (fieldAt s 5 8)) (leN (fieldAt s 13 2)) (.slice none 0 0) (.slice none 0 0) 0, .bool true]) ∧ Below w.heap.size w w' := by
  have gh : Tryz.prog.stoodInHeld 81 = false := by kernel_rfl
  have hq : leN (fieldAt s 5 8) < 18446744073709551616 := by
    have h2 := leN_lt (fieldAt s 5 8)
    rw [fieldAt_length s 5 8 (by omega)] at h2
    have h4 : (256 : Nat) ^ 8 = 18446744073709551616 := by decide
    omega
  have GS : Hid (∀ w, Calls Tryz.prog 129 #[.string s, .int .i64 5, .int .i64 8] w fun e w' => e = .returned (.tuple #[.int .u64 (leN (fieldAt s 5 8) : Int), .bool true]) ∧ w = w') := Lib.hid fun w => get_yes s hs 5 8 (by omega) (by omega) w
  have GK : Hid (∀ w, Calls Tryz.prog 128 #[.string s, .int .i64 4, .int .i64 1] w fun e w' => e = .returned (.tuple #[.int .i64 (kindOf s : Int), .bool true]) ∧ w = w') := Lib.hid fun w => geti_yes s hs 4 1 (by omega) (by omega) w
  generalize leN (fieldAt s 5 8) = seq at *
  have G2 : Hid (∀ w, Calls Tryz.prog 128 #[.string s, .int .i64 13, .int .i64 2] w fun e w' => e = .returned (.tuple #[.int .i64 (leN (fieldAt s 13 2) : Int), .bool true]) ∧ w = w') := Lib.hid fun w => geti_yes s hs 13 2 (by omega) h2 w
  rw [hk] at GK
  generalize leN (fieldAt s 13 2) = pos at *
  clear h h2
  go_enter Tryz.func120, Tryz.ntmps120
  go_wp2_with fail
  refine (GK.out _).mono ?_; rintro e w1 ⟨rfl, rfl⟩
  go_wp2_with fail
  refine (GS.out _).mono ?_; rintro e w1 ⟨rfl, rfl⟩
  go_wp2_with fail
  refine (G2.out _).mono ?_; rintro e w1 ⟨rfl, rfl⟩
  go_wp2_with (refine wpList_store_rec (q := seq) (s := 0) rfl _ _ rfl rfl rfl _ rfl ((Blk.new _ _ w).kept1 (balloc1 _ _)) ?_)
  intro w2 h2 hl2 hs2 _
  obtain ⟨y0, y1, y2, y3, y4, y5⟩ := rec_cells h2
  have hbe : Below w.heap.size w w2 := (balloc (balloc1 w _) _).trans hl2
  clear hl2 hs2
  go_wp2
  refine bodyPost_ret (v := .tuple #[recA 1 (seq) pos (.slice none 0 0) (.slice none 0 0) 0, .bool true]) ?_ rfl ⟨rfl, hbe⟩
  rw [results_cell_tmp rfl]
  go_simp
set_option maxHeartbeats 4000000 in
theorem read_1n (s : ByteArray) (hs : s.size ≤ maxLen) (h : 13 ≤ s.size) (hk : kindOf s = 1) (h2 : ¬ 15 ≤ s.size) (w : World) :
    Calls Tryz.prog 120 #[.string s] w fun e w' => e = .returned (.tuple #[recA 1 (leN (fieldAt s 5 8)) 0 (.slice none 0 0) (.slice none 0 0) 0, .bool false]) ∧ Below w.heap.size w w' := by
  have gh : Tryz.prog.stoodInHeld 81 = false := by kernel_rfl
  have hq : leN (fieldAt s 5 8) < 18446744073709551616 := by
    have h2 := leN_lt (fieldAt s 5 8)
    rw [fieldAt_length s 5 8 (by omega)] at h2
    have h4 : (256 : Nat) ^ 8 = 18446744073709551616 := by decide
    omega
  have GS : Hid (∀ w, Calls Tryz.prog 129 #[.string s, .int .i64 5, .int .i64 8] w fun e w' => e = .returned (.tuple #[.int .u64 (leN (fieldAt s 5 8) : Int), .bool true]) ∧ w = w') := Lib.hid fun w => get_yes s hs 5 8 (by omega) (by omega) w
  have GK : Hid (∀ w, Calls Tryz.prog 128 #[.string s, .int .i64 4, .int .i64 1] w fun e w' => e = .returned (.tuple #[.int .i64 (kindOf s : Int), .bool true]) ∧ w = w') := Lib.hid fun w => geti_yes s hs 4 1 (by omega) (by omega) w
  generalize leN (fieldAt s 5 8) = seq at *
  have G2 : Hid (∀ w, Calls Tryz.prog 128 #[.string s, .int .i64 13, .int .i64 2] w fun e w' => e = .returned (.tuple #[.int .i64 0, .bool false]) ∧ w = w') := Lib.hid fun w => geti_no s hs 13 2 (by omega) w
  rw [hk] at GK
  clear h h2
  go_enter Tryz.func120, Tryz.ntmps120
  go_wp2_with fail
  refine (GK.out _).mono ?_; rintro e w1 ⟨rfl, rfl⟩
  go_wp2_with fail
  refine (GS.out _).mono ?_; rintro e w1 ⟨rfl, rfl⟩
  go_wp2_with fail
  refine (G2.out _).mono ?_; rintro e w1 ⟨rfl, rfl⟩
  go_wp2_with (refine wpList_store_rec (q := seq) (s := 0) rfl _ _ rfl rfl rfl _ rfl ((Blk.new _ _ w).kept1 (balloc1 _ _)) ?_)
  intro w2 h2 hl2 hs2 _
  obtain ⟨y0, y1, y2, y3, y4, y5⟩ := rec_cells h2
  have hbe : Below w.heap.size w w2 := (balloc (balloc1 w _) _).trans hl2
  clear hl2 hs2
  go_wp2
  refine bodyPost_ret (v := .tuple #[recA 1 (seq) 0 (.slice none 0 0) (.slice none 0 0) 0, .bool false]) ?_ rfl ⟨rfl, hbe⟩
  rw [results_cell_tmp rfl]
  go_simp
set_option maxHeartbeats 4000000 in
theorem read_4 (s : ByteArray) (hs : s.size ≤ maxLen) (h : 13 ≤ s.size) (hk : kindOf s = 4) (h2 : 17 ≤ s.size) (w : World) :
    Calls Tryz.prog 120 #[.string s] w fun e w' => e = .returned (.tuple #[recA 4 (leN (fieldAt s 5 8)) 0 (.slice none 0 0) (.slice none 0 0) (leN (fieldAt s 13 4)), .bool true]) ∧ Below w.heap.size w w' := by
  have gh : Tryz.prog.stoodInHeld 81 = false := by kernel_rfl
  have hq : leN (fieldAt s 5 8) < 18446744073709551616 := by
    have h2 := leN_lt (fieldAt s 5 8)
    rw [fieldAt_length s 5 8 (by omega)] at h2
    have h4 : (256 : Nat) ^ 8 = 18446744073709551616 := by decide
    omega
  have GS : Hid (∀ w, Calls Tryz.prog 129 #[.string s, .int .i64 5, .int .i64 8] w fun e w' => e = .returned (.tuple #[.int .u64 (leN (fieldAt s 5 8) : Int), .bool true]) ∧ w = w') := Lib.hid fun w => get_yes s hs 5 8 (by omega) (by omega) w
  have GK : Hid (∀ w, Calls Tryz.prog 128 #[.string s, .int .i64 4, .int .i64 1] w fun e w' => e = .returned (.tuple #[.int .i64 (kindOf s : Int), .bool true]) ∧ w = w') := Lib.hid fun w => geti_yes s hs 4 1 (by omega) (by omega) w
  generalize leN (fieldAt s 5 8) = seq at *
  have G2 : Hid (∀ w, Calls Tryz.prog 129 #[.string s, .int .i64 13, .int .i64 4] w fun e w' => e = .returned (.tuple #[.int .u64 (leN (fieldAt s 13 4) : Int), .bool true]) ∧ w = w') := Lib.hid fun w => get_yes s hs 13 4 (by omega) (by omega) w
  have hsm : leN (fieldAt s 13 4) < 4294967296 := by
    have h2 := leN_lt (fieldAt s 13 4)
    rw [fieldAt_length s 13 4 (by omega)] at h2
    omega
  rw [hk] at GK
  generalize leN (fieldAt s 13 4) = sm at *
  clear h h2
  go_enter Tryz.func120, Tryz.ntmps120
  go_wp2_with fail
  refine (GK.out _).mono ?_; rintro e w1 ⟨rfl, rfl⟩
  go_wp2_with fail
  refine (GS.out _).mono ?_; rintro e w1 ⟨rfl, rfl⟩
  go_wp2_with fail
  refine (G2.out _).mono ?_; rintro e w1 ⟨rfl, rfl⟩
  go_wp2_with (refine wpList_store_rec (q := seq) (s := sm) rfl _ _ rfl rfl rfl _ rfl ((Blk.new _ _ w).kept1 (balloc1 _ _)) ?_)
  intro w2 h2 hl2 hs2 _
  obtain ⟨y0, y1, y2, y3, y4, y5⟩ := rec_cells h2
  have hbe : Below w.heap.size w w2 := (balloc (balloc1 w _) _).trans hl2
  clear hl2 hs2
  go_wp2
  refine bodyPost_ret (v := .tuple #[recA 4 (seq) 0 (.slice none 0 0) (.slice none 0 0) sm, .bool true]) ?_ rfl ⟨rfl, hbe⟩
  rw [results_cell_tmp rfl]
  go_simp
set_option maxHeartbeats 4000000 in
theorem read_4n (s : ByteArray) (hs : s.size ≤ maxLen) (h : 13 ≤ s.size) (hk : kindOf s = 4) (h2 : ¬ 17 ≤ s.size) (w : World) :
    Calls Tryz.prog 120 #[.string s] w fun e w' => e = .returned (.tuple #[recA 4 (leN (fieldAt s 5 8)) 0 (.slice none 0 0) (.slice none 0 0) 0, .bool false]) ∧ Below w.heap.size w w' := by
  have gh : Tryz.prog.stoodInHeld 81 = false := by kernel_rfl
  have hq : leN (fieldAt s 5 8) < 18446744073709551616 := by
    have h2 := leN_lt (fieldAt s 5 8)
    rw [fieldAt_length s 5 8 (by omega)] at h2
    have h4 : (256 : Nat) ^ 8 = 18446744073709551616 := by decide
    omega
  have GS : Hid (∀ w, Calls Tryz.prog 129 #[.string s, .int .i64 5, .int .i64 8] w fun e w' => e = .returned (.tuple #[.int .u64 (leN (fieldAt s 5 8) : Int), .bool true]) ∧ w = w') := Lib.hid fun w => get_yes s hs 5 8 (by omega) (by omega) w
  have GK : Hid (∀ w, Calls Tryz.prog 128 #[.string s, .int .i64 4, .int .i64 1] w fun e w' => e = .returned (.tuple #[.int .i64 (kindOf s : Int), .bool true]) ∧ w = w') := Lib.hid fun w => geti_yes s hs 4 1 (by omega) (by omega) w
  generalize leN (fieldAt s 5 8) = seq at *
  have G2 : Hid (∀ w, Calls Tryz.prog 129 #[.string s, .int .i64 13, .int .i64 4] w fun e w' => e = .returned (.tuple #[.int .u64 0, .bool false]) ∧ w = w') := Lib.hid fun w => get_no s hs (13 : Nat) (4 : Nat) (field_no (by omega)) w
  rw [hk] at GK
  clear h h2
  go_enter Tryz.func120, Tryz.ntmps120
  go_wp2_with fail
  refine (GK.out _).mono ?_; rintro e w1 ⟨rfl, rfl⟩
  go_wp2_with fail
  refine (GS.out _).mono ?_; rintro e w1 ⟨rfl, rfl⟩
  go_wp2_with fail
  refine (G2.out _).mono ?_; rintro e w1 ⟨rfl, rfl⟩
  go_wp2_with (refine wpList_store_rec (q := seq) (s := 0) rfl _ _ rfl rfl rfl _ rfl ((Blk.new _ _ w).kept1 (balloc1 _ _)) ?_)
  intro w2 h2 hl2 hs2 _
  obtain ⟨y0, y1, y2, y3, y4, y5⟩ := rec_cells h2
  have hbe : Below w.heap.size w w2 := (balloc (balloc1 w _) _).trans hl2
  clear hl2 hs2
  go_wp2
  refine bodyPost_ret (v := .tuple #[recA 4 (seq) 0 (.slice none 0 0) (.slice none 0 0) 0, .bool false]) ?_ rfl ⟨rfl, hbe⟩
  rw [results_cell_tmp rfl]
  go_simp
set_option maxHeartbeats 4000000 in
theorem read_0 (s : ByteArray) (hs : s.size ≤ maxLen) (h : 13 ≤ s.size) (h1 : kindOf s ≠ 1) (h2 : kindOf s ≠ 2) (h3 : kindOf s ≠ 3) (h4 : kindOf s ≠ 4) (w : World) :
    Calls Tryz.prog 120 #[.string s] w fun e w' => e = .returned (.tuple #[recA (kindOf s) (leN (fieldAt s 5 8)) 0 (.slice none 0 0) (.slice none 0 0) 0, .bool true]) ∧ Below w.heap.size w w' := by
  have gh : Tryz.prog.stoodInHeld 81 = false := by kernel_rfl
  have hq : leN (fieldAt s 5 8) < 18446744073709551616 := by
    have h2 := leN_lt (fieldAt s 5 8)
    rw [fieldAt_length s 5 8 (by omega)] at h2
    have h4 : (256 : Nat) ^ 8 = 18446744073709551616 := by decide
    omega
  have GS : Hid (∀ w, Calls Tryz.prog 129 #[.string s, .int .i64 5, .int .i64 8] w fun e w' => e = .returned (.tuple #[.int .u64 (leN (fieldAt s 5 8) : Int), .bool true]) ∧ w = w') := Lib.hid fun w => get_yes s hs 5 8 (by omega) (by omega) w
  have GK : Hid (∀ w, Calls Tryz.prog 128 #[.string s, .int .i64 4, .int .i64 1] w fun e w' => e = .returned (.tuple #[.int .i64 (kindOf s : Int), .bool true]) ∧ w = w') := Lib.hid fun w => geti_yes s hs 4 1 (by omega) (by omega) w
  generalize leN (fieldAt s 5 8) = seq at *
  generalize kindOf s = k at *
  have d1 : ((k : Int) == 1) = false := by rw [beq_eq_false_iff_ne]; omega
  have d2 : ((k : Int) == 2) = false := by rw [beq_eq_false_iff_ne]; omega
  have d3 : ((k : Int) == 3) = false := by rw [beq_eq_false_iff_ne]; omega
  have d4 : ((k : Int) == 4) = false := by rw [beq_eq_false_iff_ne]; omega
  clear h h1 h2 h3 h4
  go_enter Tryz.func120, Tryz.ntmps120
  go_wp2_with fail
  refine (GK.out _).mono ?_; rintro e w1 ⟨rfl, rfl⟩
  go_wp2_with fail
  refine (GS.out _).mono ?_; rintro e w1 ⟨rfl, rfl⟩
  go_wp2_with (refine wpList_store_rec (q := seq) (s := 0) rfl _ _ rfl rfl rfl _ rfl ((Blk.new _ _ w).kept1 (balloc1 _ _)) ?_)
  intro w2 h2 hl2 hs2 _
  obtain ⟨y0, y1, y2, y3, y4, y5⟩ := rec_cells h2
  have hbe : Below w.heap.size w w2 := (balloc (balloc1 w _) _).trans hl2
  clear hl2 hs2
  go_wp2
  refine bodyPost_ret (v := .tuple #[recA k (seq) 0 (.slice none 0 0) (.slice none 0 0) 0, .bool true]) ?_ rfl ⟨rfl, hbe⟩
  rw [results_cell_tmp rfl]
  go_simp
end Go.Proofs.YtfllncliiihggaaGreatDoor
