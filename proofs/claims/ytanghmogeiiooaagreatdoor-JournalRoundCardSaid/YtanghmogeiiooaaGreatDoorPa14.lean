import Derived.Test.YtanghmogeiiooaaGreatDoorPa13
import Derived.Test.YtanghmogeiiooaaGreatDoorPa11
set_option linter.unusedVariables false
set_option linter.unusedSimpArgs false
set_option linter.constructorNameAsVariable false
/- read: what a block says. -/
namespace Go.Proofs.YtanghmogeiiooaaGreatDoor
set_option linter.unusedVariables false
open Go.RowKit

abbrev recA (k : Int) (q : Nat) (p : Int) (vh vm : Value) (s : Nat) : Value := .agg #[.int .i64 k, .int .u64 (q : Int), .int .i64 p, vh, vm, .int .u32 (s : Int)]
theorem rec_info : (Tryz.prog.info? 134).map (·.size) = some 6 := by kernel_rfl
/-- a whole record is written over one that stands in block g -/
theorem wpList_store_rec {ops : Array Oper} {rest : List Oper} {o : Oper} {a : Act} {w : World} {Q : Exit → Act → World → Prop} (hgd : o.guard = none) (x y : Operand) (ho : o.op = .store 134 x y)
    {g q s n c m cm : Nat} {k p : Int} {ad am : Option Addr} (hx : a.eval x = .pointer (some ⟨g, 0, none⟩)) (hy : a.eval y = recA k q p (.slice ad n c) (.slice am m cm) s)
    (old : Array Value) (hold : old.size = 6) (hg : Blk g old 134 w)
    (h : ∀ w2, RecAt g k q p (.slice ad n c) (.slice am m cm) s w2 → Below g w w2 → w2.heap.size = w.heap.size → (∀ j, j ≠ g → w2.heap[j]? = w.heap[j]?) → wpList Tryz.prog ops Q rest (a.put o.dst undef) w2) : wpList Tryz.prog ops Q (o :: rest) a w :=
  wpList_store_row hgd _ x y ho g #[.int .i64 k, .int .u64 (q : Int), .int .i64 p, .slice ad n c, .slice am m cm, .int .u32 (s : Int)] hx hy _ _ hg rec_info hold (by simp [Value.oneCell'])
    (h _ (setRow_heap w g _ _ _ _ hg) ⟨rfl, rfl, rfl, by simp, fun j hj => setRow_other w g j _ (by omega)⟩ (by simp) (fun j hj => setRow_other w g j _ hj))

/-- what readers tell: the record, its lists in memory of the call's own -/
def RecOwn (B : Nat) (r : Rec) (vh vm : Value) (w : World) : Prop := IntsOwn B vh r.homes w ∧ BoolsOwn B vm r.masked w
theorem RecOwn.isIn {B : Nat} {r : Rec} {vh vm : Value} {w : World} (h : RecOwn B r vh vm w) : RecIn r vh vm w := ⟨own_in h.1, own_in h.2⟩
theorem RecOwn.kept {B : Nat} {r : Rec} {vh vm : Value} {w w' : World} (h : RecOwn B r vh vm w) (hb : Below w.heap.size w w') : RecOwn B r vh vm w' := ⟨row_kept h.1 hb, row_kept h.2 hb⟩
theorem RecOwn.down {B B' : Nat} {r : Rec} {vh vm : Value} {w : World} (hB : B' ≤ B) (h : RecOwn B r vh vm w) : RecOwn B' r vh vm w := ⟨row_down hB h.1, row_down hB h.2⟩

set_option maxHeartbeats 4000000 in
theorem read_short (s : ByteArray) (hs : s.size ≤ maxLen) (h : s.size < 13) (w : World) :
    Calls Tryz.prog 110 #[.string s] w fun e w' => e = .returned (.tuple #[noR, .bool false]) ∧ Below w.heap.size w w' := by
  have gh : Tryz.prog.stoodInHeld 134 = false := by kernel_rfl
  have GS : Hid (∀ w, Calls Tryz.prog 122 #[.string s, .int .i64 5, .int .i64 8] w fun e w' => e = .returned (.tuple #[.int .u64 0, .bool false]) ∧ w = w') := Lib.hid fun w => get_no s hs (5 : Nat) (8 : Nat) (field_no (by omega)) w
  have GK : Hid (∃ (k : Int) (b : Bool), ∀ w, Calls Tryz.prog 121 #[.string s, .int .i64 4, .int .i64 1] w fun e w' => e = .returned (.tuple #[.int .i64 k, .bool b]) ∧ w = w') := Lib.hid ⟨_, _, fun w => getInt_any s hs (4 : Nat) (1 : Nat) w⟩
  obtain ⟨k, b, GK⟩ := GK.out
  have GK := Lib.hid GK
  clear h
  go_enter Tryz.func110, Tryz.ntmps110
  go_wp2_with fail
  refine (GK.out _).mono ?_; rintro e w1 ⟨rfl, rfl⟩
  go_wp2_with fail
  refine (GS.out _).mono ?_; rintro e w1 ⟨rfl, rfl⟩
  go_wp2_with (refine wpList_store_rec (q := 0) (s := 0) rfl _ _ rfl rfl rfl _ rfl (Blk.new _ _ w) ?_)
  intro w2 h2 hl2 hs2 _
  obtain ⟨y0, y1, y2, y3, y4, y5⟩ := rec_cells h2
  have hbe : Below w.heap.size w w2 := (balloc1 w _).trans hl2
  clear hl2 hs2
  go_wp2
  refine bodyPost_ret (v := .tuple #[noR, .bool false]) ?_ rfl ⟨rfl, hbe⟩
  rw [results_cell_tmp rfl]
  go_simp
set_option maxHeartbeats 4000000 in
theorem read_1 (s : ByteArray) (hs : s.size ≤ maxLen) (h : 13 ≤ s.size) (hk : kindOf s = 1) (h2 : 15 ≤ s.size) (w : World) :
    Calls Tryz.prog 110 #[.string s] w fun e w' => e = .returned (.tuple #[recA 1 (leN (fieldAt s 5 8)) (leN (fieldAt s 13 2)) (.slice none 0 0) (.slice none 0 0) 0, .bool true]) ∧ Below w.heap.size w w' := by
  have gh : Tryz.prog.stoodInHeld 134 = false := by kernel_rfl
  have hq : leN (fieldAt s 5 8) < 18446744073709551616 := by
    have h2 := leN_lt (fieldAt s 5 8)
    rw [fieldAt_length s 5 8 (by omega)] at h2
    have h4 : (256 : Nat) ^ 8 = 18446744073709551616 := by decide
    omega
  have GS : Hid (∀ w, Calls Tryz.prog 122 #[.string s, .int .i64 5, .int .i64 8] w fun e w' => e = .returned (.tuple #[.int .u64 (leN (fieldAt s 5 8) : Int), .bool true]) ∧ w = w') := Lib.hid fun w => get_yes s hs 5 8 (by omega) (by omega) w
  have GK : Hid (∀ w, Calls Tryz.prog 121 #[.string s, .int .i64 4, .int .i64 1] w fun e w' => e = .returned (.tuple #[.int .i64 (kindOf s : Int), .bool true]) ∧ w = w') := Lib.hid fun w => geti_yes s hs 4 1 (by omega) (by omega) w
  generalize leN (fieldAt s 5 8) = seq at *
  have G2 : Hid (∀ w, Calls Tryz.prog 121 #[.string s, .int .i64 13, .int .i64 2] w fun e w' => e = .returned (.tuple #[.int .i64 (leN (fieldAt s 13 2) : Int), .bool true]) ∧ w = w') := Lib.hid fun w => geti_yes s hs 13 2 (by omega) h2 w
  rw [hk] at GK
  generalize leN (fieldAt s 13 2) = pos at *
  clear h h2
  go_enter Tryz.func110, Tryz.ntmps110
  go_wp2_with fail
  refine (GK.out _).mono ?_; rintro e w1 ⟨rfl, rfl⟩
  go_wp2_with fail
  refine (GS.out _).mono ?_; rintro e w1 ⟨rfl, rfl⟩
  go_wp2_with fail
  refine (G2.out _).mono ?_; rintro e w1 ⟨rfl, rfl⟩
  go_wp2_with (refine wpList_store_rec (q := seq) (s := 0) rfl _ _ rfl rfl rfl _ rfl ((Blk.new _ _ w).kept1 (balloc1 _ _)) ?_)
  intro w2 h2 hl2 hs2 _
  obtain ⟨y0, y1, y2, y3, y4, y5⟩ := rec_cells h2
  have hbe : Below w.heap.size w w2 := (balloc (balloc1 w _) _).trans hl2
  clear hl2 hs2
  go_wp2
  refine bodyPost_ret (v := .tuple #[recA 1 (seq) pos (.slice none 0 0) (.slice none 0 0) 0, .bool true]) ?_ rfl ⟨rfl, hbe⟩
  rw [results_cell_tmp rfl]
  go_simp
set_option maxHeartbeats 4000000 in
theorem read_1n (s : ByteArray) (hs : s.size ≤ maxLen) (h : 13 ≤ s.size) (hk : kindOf s = 1) (h2 : ¬ 15 ≤ s.size) (w : World) :
    Calls Tryz.prog 110 #[.string s] w fun e w' => e = .returned (.tuple #[recA 1 (leN (fieldAt s 5 8)) 0 (.slice none 0 0) (.slice none 0 0) 0, .bool false]) ∧ Below w.heap.size w w' := by
  have gh : Tryz.prog.stoodInHeld 134 = false := by kernel_rfl
  have hq : leN (fieldAt s 5 8) < 18446744073709551616 := by
    have h2 := leN_lt (fieldAt s 5 8)
    rw [fieldAt_length s 5 8 (by omega)] at h2
    have h4 : (256 : Nat) ^ 8 = 18446744073709551616 := by decide
    omega
  have GS : Hid (∀ w, Calls Tryz.prog 122 #[.string s, .int .i64 5, .int .i64 8] w fun e w' => e = .returned (.tuple #[.int .u64 (leN (fieldAt s 5 8) : Int), .bool true]) ∧ w = w') := Lib.hid fun w => get_yes s hs 5 8 (by omega) (by omega) w
  have GK : Hid (∀ w, Calls Tryz.prog 121 #[.string s, .int .i64 4, .int .i64 1] w fun e w' => e = .returned (.tuple #[.int .i64 (kindOf s : Int), .bool true]) ∧ w = w') := Lib.hid fun w => geti_yes s hs 4 1 (by omega) (by omega) w
  generalize leN (fieldAt s 5 8) = seq at *
  have G2 : Hid (∀ w, Calls Tryz.prog 121 #[.string s, .int .i64 13, .int .i64 2] w fun e w' => e = .returned (.tuple #[.int .i64 0, .bool false]) ∧ w = w') := Lib.hid fun w => geti_no s hs 13 2 (by omega) w
  rw [hk] at GK
  clear h h2
  go_enter Tryz.func110, Tryz.ntmps110
  go_wp2_with fail
  refine (GK.out _).mono ?_; rintro e w1 ⟨rfl, rfl⟩
  go_wp2_with fail
  refine (GS.out _).mono ?_; rintro e w1 ⟨rfl, rfl⟩
  go_wp2_with fail
  refine (G2.out _).mono ?_; rintro e w1 ⟨rfl, rfl⟩
  go_wp2_with (refine wpList_store_rec (q := seq) (s := 0) rfl _ _ rfl rfl rfl _ rfl ((Blk.new _ _ w).kept1 (balloc1 _ _)) ?_)
  intro w2 h2 hl2 hs2 _
  obtain ⟨y0, y1, y2, y3, y4, y5⟩ := rec_cells h2
  have hbe : Below w.heap.size w w2 := (balloc (balloc1 w _) _).trans hl2
  clear hl2 hs2
  go_wp2
  refine bodyPost_ret (v := .tuple #[recA 1 (seq) 0 (.slice none 0 0) (.slice none 0 0) 0, .bool false]) ?_ rfl ⟨rfl, hbe⟩
  rw [results_cell_tmp rfl]
  go_simp
set_option maxHeartbeats 4000000 in
theorem read_4 (s : ByteArray) (hs : s.size ≤ maxLen) (h : 13 ≤ s.size) (hk : kindOf s = 4) (h2 : 17 ≤ s.size) (w : World) :
    Calls Tryz.prog 110 #[.string s] w fun e w' => e = .returned (.tuple #[recA 4 (leN (fieldAt s 5 8)) 0 (.slice none 0 0) (.slice none 0 0) (leN (fieldAt s 13 4)), .bool true]) ∧ Below w.heap.size w w' := by
  have gh : Tryz.prog.stoodInHeld 134 = false := by kernel_rfl
  have hq : leN (fieldAt s 5 8) < 18446744073709551616 := by
    have h2 := leN_lt (fieldAt s 5 8)
    rw [fieldAt_length s 5 8 (by omega)] at h2
    have h4 : (256 : Nat) ^ 8 = 18446744073709551616 := by decide
    omega
  have GS : Hid (∀ w, Calls Tryz.prog 122 #[.string s, .int .i64 5, .int .i64 8] w fun e w' => e = .returned (.tuple #[.int .u64 (leN (fieldAt s 5 8) : Int), .bool true]) ∧ w = w') := Lib.hid fun w => get_yes s hs 5 8 (by omega) (by omega) w
  have GK : Hid (∀ w, Calls Tryz.prog 121 #[.string s, .int .i64 4, .int .i64 1] w fun e w' => e = .returned (.tuple #[.int .i64 (kindOf s : Int), .bool true]) ∧ w = w') := Lib.hid fun w => geti_yes s hs 4 1 (by omega) (by omega) w
  generalize leN (fieldAt s 5 8) = seq at *
  have G2 : Hid (∀ w, Calls Tryz.prog 122 #[.string s, .int .i64 13, .int .i64 4] w fun e w' => e = .returned (.tuple #[.int .u64 (leN (fieldAt s 13 4) : Int), .bool true]) ∧ w = w') := Lib.hid fun w => get_yes s hs 13 4 (by omega) (by omega) w
  have hsm : leN (fieldAt s 13 4) < 4294967296 := by
    have h2 := leN_lt (fieldAt s 13 4)
    rw [fieldAt_length s 13 4 (by omega)] at h2
    omega
  rw [hk] at GK
  generalize leN (fieldAt s 13 4) = sm at *
  clear h h2
  go_enter Tryz.func110, Tryz.ntmps110
  go_wp2_with fail
  refine (GK.out _).mono ?_; rintro e w1 ⟨rfl, rfl⟩
  go_wp2_with fail
  refine (GS.out _).mono ?_; rintro e w1 ⟨rfl, rfl⟩
  go_wp2_with fail
  refine (G2.out _).mono ?_; rintro e w1 ⟨rfl, rfl⟩
  go_wp2_with (refine wpList_store_rec (q := seq) (s := sm) rfl _ _ rfl rfl rfl _ rfl ((Blk.new _ _ w).kept1 (balloc1 _ _)) ?_)
  intro w2 h2 hl2 hs2 _
  obtain ⟨y0, y1, y2, y3, y4, y5⟩ := rec_cells h2
  have hbe : Below w.heap.size w w2 := (balloc (balloc1 w _) _).trans hl2
  clear hl2 hs2
  go_wp2
  refine bodyPost_ret (v := .tuple #[recA 4 (seq) 0 (.slice none 0 0) (.slice none 0 0) sm, .bool true]) ?_ rfl ⟨rfl, hbe⟩
  rw [results_cell_tmp rfl]
  go_simp
set_option maxHeartbeats 4000000 in
theorem read_4n (s : ByteArray) (hs : s.size ≤ maxLen) (h : 13 ≤ s.size) (hk : kindOf s = 4) (h2 : ¬ 17 ≤ s.size) (w : World) :
    Calls Tryz.prog 110 #[.string s] w fun e w' => e = .returned (.tuple #[recA 4 (leN (fieldAt s 5 8)) 0 (.slice none 0 0) (.slice none 0 0) 0, .bool false]) ∧ Below w.heap.size w w' := by
  have gh : Tryz.prog.stoodInHeld 134 = false := by kernel_rfl
  have hq : leN (fieldAt s 5 8) < 18446744073709551616 := by
    have h2 := leN_lt (fieldAt s 5 8)
    rw [fieldAt_length s 5 8 (by omega)] at h2
    have h4 : (256 : Nat) ^ 8 = 18446744073709551616 := by decide
    omega
  have GS : Hid (∀ w, Calls Tryz.prog 122 #[.string s, .int .i64 5, .int .i64 8] w fun e w' => e = .returned (.tuple #[.int .u64 (leN (fieldAt s 5 8) : Int), .bool true]) ∧ w = w') := Lib.hid fun w => get_yes s hs 5 8 (by omega) (by omega) w
  have GK : Hid (∀ w, Calls Tryz.prog 121 #[.string s, .int .i64 4, .int .i64 1] w fun e w' => e = .returned (.tuple #[.int .i64 (kindOf s : Int), .bool true]) ∧ w = w') := Lib.hid fun w => geti_yes s hs 4 1 (by omega) (by omega) w
  generalize leN (fieldAt s 5 8) = seq at *
  have G2 : Hid (∀ w, Calls Tryz.prog 122 #[.string s, .int .i64 13, .int .i64 4] w fun e w' => e = .returned (.tuple #[.int .u64 0, .bool false]) ∧ w = w') := Lib.hid fun w => get_no s hs (13 : Nat) (4 : Nat) (field_no (by omega)) w
  rw [hk] at GK
  clear h h2
  go_enter Tryz.func110, Tryz.ntmps110
  go_wp2_with fail
  refine (GK.out _).mono ?_; rintro e w1 ⟨rfl, rfl⟩
  go_wp2_with fail
  refine (GS.out _).mono ?_; rintro e w1 ⟨rfl, rfl⟩
  go_wp2_with fail
  refine (G2.out _).mono ?_; rintro e w1 ⟨rfl, rfl⟩
  go_wp2_with (refine wpList_store_rec (q := seq) (s := 0) rfl _ _ rfl rfl rfl _ rfl ((Blk.new _ _ w).kept1 (balloc1 _ _)) ?_)
  intro w2 h2 hl2 hs2 _
  obtain ⟨y0, y1, y2, y3, y4, y5⟩ := rec_cells h2
  have hbe : Below w.heap.size w w2 := (balloc (balloc1 w _) _).trans hl2
  clear hl2 hs2
  go_wp2
  refine bodyPost_ret (v := .tuple #[recA 4 (seq) 0 (.slice none 0 0) (.slice none 0 0) 0, .bool false]) ?_ rfl ⟨rfl, hbe⟩
  rw [results_cell_tmp rfl]
  go_simp
set_option maxHeartbeats 4000000 in
theorem read_0 (s : ByteArray) (hs : s.size ≤ maxLen) (h : 13 ≤ s.size) (h1 : kindOf s ≠ 1) (h2 : kindOf s ≠ 2) (h3 : kindOf s ≠ 3) (h4 : kindOf s ≠ 4) (w : World) :
    Calls Tryz.prog 110 #[.string s] w fun e w' => e = .returned (.tuple #[recA (kindOf s) (leN (fieldAt s 5 8)) 0 (.slice none 0 0) (.slice none 0 0) 0, .bool true]) ∧ Below w.heap.size w w' := by
  have gh : Tryz.prog.stoodInHeld 134 = false := by kernel_rfl
  have hq : leN (fieldAt s 5 8) < 18446744073709551616 := by
    have h2 := leN_lt (fieldAt s 5 8)
    rw [fieldAt_length s 5 8 (by omega)] at h2
    have h4 : (256 : Nat) ^ 8 = 18446744073709551616 := by decide
    omega
  have GS : Hid (∀ w, Calls Tryz.prog 122 #[.string s, .int .i64 5, .int .i64 8] w fun e w' => e = .returned (.tuple #[.int .u64 (leN (fieldAt s 5 8) : Int), .bool true]) ∧ w = w') := Lib.hid fun w => get_yes s hs 5 8 (by omega) (by omega) w
  have GK : Hid (∀ w, Calls Tryz.prog 121 #[.string s, .int .i64 4, .int .i64 1] w fun e w' => e = .returned (.tuple #[.int .i64 (kindOf s : Int), .bool true]) ∧ w = w') := Lib.hid fun w => geti_yes s hs 4 1 (by omega) (by omega) w
  generalize leN (fieldAt s 5 8) = seq at *
  generalize kindOf s = k at *
  have d1 : ((k : Int) == 1) = false := by rw [beq_eq_false_iff_ne]; omega
  have d2 : ((k : Int) == 2) = false := by rw [beq_eq_false_iff_ne]; omega
  have d3 : ((k : Int) == 3) = false := by rw [beq_eq_false_iff_ne]; omega
  have d4 : ((k : Int) == 4) = false := by rw [beq_eq_false_iff_ne]; omega
  clear h h1 h2 h3 h4
  go_enter Tryz.func110, Tryz.ntmps110
  go_wp2_with fail
  refine (GK.out _).mono ?_; rintro e w1 ⟨rfl, rfl⟩
  go_wp2_with fail
  refine (GS.out _).mono ?_; rintro e w1 ⟨rfl, rfl⟩
  go_wp2_with (refine wpList_store_rec (q := seq) (s := 0) rfl _ _ rfl rfl rfl _ rfl ((Blk.new _ _ w).kept1 (balloc1 _ _)) ?_)
  intro w2 h2 hl2 hs2 _
  obtain ⟨y0, y1, y2, y3, y4, y5⟩ := rec_cells h2
  have hbe : Below w.heap.size w w2 := (balloc (balloc1 w _) _).trans hl2
  clear hl2 hs2
  go_wp2
  refine bodyPost_ret (v := .tuple #[recA k (seq) 0 (.slice none 0 0) (.slice none 0 0) 0, .bool true]) ?_ rfl ⟨rfl, hbe⟩
  rw [results_cell_tmp rfl]
  go_simp
end Go.Proofs.YtanghmogeiiooaaGreatDoor

/- read of a record with homes. -/
namespace Go.Proofs.YtanghmogeiiooaaGreatDoor
set_option linter.unusedVariables false
open Go.RowKit

theorem row_same {B n : Nat} {v : Value} {e : TypeId} {z : Nat} {xs : List Value} {w w' : World} (h : w.ownsRow B e z v n xs) (he : ∀ j, B ≤ j → w'.heap[j]? = w.heap[j]?) : w'.ownsRow B e z v n xs :=
  ⟨h.1, h.2.imp id fun ⟨g, cap, cur, a, b, c, r⟩ => ⟨g, cap, cur, a, b, (he g b).trans c, r⟩⟩
theorem ksize_set (w : World) (p : Addr) (v : Value) : (w.setCell p v).heap.size = w.heap.size := by simp [World.setCell]
abbrev zeroC : Array Value := #[.int .i64 0, .int .u64 0, .int .i64 0, .slice none 0 0, .slice none 0 0, .int .u32 0]
abbrev HomesBad (s : ByteArray) : Prop := ¬ (14 ≤ s.size ∧ 14 + 2 * countOf s ≤ s.size)

set_option maxHeartbeats 4000000 in
theorem read_3 (s : ByteArray) (hs : s.size ≤ maxLen) (h : 13 ≤ s.size) (hk : kindOf s = 3) (h14 : 14 ≤ s.size) (h2 : 14 + 2 * countOf s ≤ s.size) (w : World) :
    Calls Tryz.prog 110 #[.string s] w fun e w' => ∃ vh vm, e = .returned (.tuple #[recA 3 (leN (fieldAt s 5 8)) 0 vh vm 0, .bool true]) ∧ IntsOwn w.heap.size vh (homesOf s (countOf s)) w' ∧ BoolsOwn w.heap.size vm ([]) w' ∧ Below w.heap.size w w' := by
  have RH := (fun w => homes_yes s hs h14 h2 w)
  generalize countOf s = nh at *
  have RH := Lib.hid RH
  have gh : Tryz.prog.stoodInHeld 134 = false := by kernel_rfl
  have hq : leN (fieldAt s 5 8) < 18446744073709551616 := by
    have h2 := leN_lt (fieldAt s 5 8)
    rw [fieldAt_length s 5 8 (by omega)] at h2
    have h4 : (256 : Nat) ^ 8 = 18446744073709551616 := by decide
    omega
  have GS : Hid (∀ w, Calls Tryz.prog 122 #[.string s, .int .i64 5, .int .i64 8] w fun e w' => e = .returned (.tuple #[.int .u64 (leN (fieldAt s 5 8) : Int), .bool true]) ∧ w = w') := Lib.hid fun w => get_yes s hs 5 8 (by omega) (by omega) w
  have GK : Hid (∀ w, Calls Tryz.prog 121 #[.string s, .int .i64 4, .int .i64 1] w fun e w' => e = .returned (.tuple #[.int .i64 (kindOf s : Int), .bool true]) ∧ w = w') := Lib.hid fun w => geti_yes s hs 4 1 (by omega) (by omega) w
  rw [hk] at GK
  generalize leN (fieldAt s 5 8) = seq at *
  obtain ⟨w0, hw0⟩ : ∃ w0, (w.alloc (.cells zeroC 134)).alloc (.cells #[.int .i64 3, .int .u64 (seq : Int), .int .i64 0, .slice none 0 0, .slice none 0 0, .int .u32 0] 134) = w0 := ⟨_, rfl⟩
  have hb0 : Below w.heap.size w w0 := by rw [← hw0]; exact balloc (balloc1 w _) _
  have HZ : Blk w.heap.size zeroC 134 w0 := by rw [← hw0]; exact (Blk.new _ _ w).kept1 (balloc1 _ _)
  have HR : RecAt (w.heap.size + 1) 3 seq 0 (.slice none 0 0) (.slice none 0 0) 0 w0 := by
    rw [← hw0]
    have := Blk.new #[.int .i64 3, .int .u64 (seq : Int), .int .i64 0, .slice none 0 0, .slice none 0 0, .int .u32 0] 134 (w.alloc (.cells zeroC 134))
    rw [size_alloc] at this
    exact this
  have hs0 : w0.heap.size = w.heap.size + 2 := by rw [← hw0, size_alloc, size_alloc]
  have HW0 := Lib.hid hw0
  clear hw0
  go_enter Tryz.func110, Tryz.ntmps110
  go_wp2_with fail
  refine (GK.out _).mono ?_; rintro e w1 ⟨rfl, rfl⟩
  go_wp2_with fail
  refine (GS.out _).mono ?_; rintro e w1 ⟨rfl, rfl⟩
  go_wp2_with fail
  rw [HW0.out]
  clear HW0
  refine (RH.out _).mono ?_; rintro e w1 ⟨vh, rfl, hown, b⟩
  obtain ⟨ah, ch, hv, -⟩ := shape_of hown
  rw [homesOf_length] at hv
  subst hv
  clear h h14 h2 RH
  have HO := Lib.hid hown
  clear hown
  have HZ1 := HZ.kept1 b
  have HR1 := HR.kept1 b
  have hs1 := b.size
  obtain ⟨x0, x1, x2, x3, x4, x5⟩ := rec_cells HR1
  have fz1 := fun j => HR1.frozen j
  have hb1 := bnext hb0 b
  obtain ⟨w2, hw2⟩ : ∃ w2, w1.setCell ⟨w.heap.size + 1, 3, none⟩ (.slice ah nh ch) = w2 := ⟨_, rfl⟩
  have HR2 : RecAt (w.heap.size + 1) 3 seq 0 (.slice ah nh ch) (.slice none 0 0) 0 w2 := by rw [← hw2]; exact HR1.set 3 _
  have HZ2 : Blk w.heap.size zeroC 134 w2 := by rw [← hw2]; exact HZ1.other (by show w.heap.size + 1 ≠ w.heap.size; omega) _
  have hs2 : w2.heap.size = w1.heap.size := by rw [← hw2]; exact ksize_set _ _ _
  have hb2 : Below w.heap.size w w2 := by rw [← hw2]; exact hb1.setCell (show w.heap.size ≤ w.heap.size + 1 by omega) _
  have he2 : ∀ j, w0.heap.size ≤ j → w2.heap[j]? = w1.heap[j]? := fun j hj => by rw [← hw2]; exact Below.heap_setCell w1 _ _ j (by show j ≠ w.heap.size + 1; omega)
  obtain ⟨z0, z1, z2, z3, z4, z5⟩ := rec_cells HR2
  clear HZ HR HZ1 HR1 b hb1 hb0 GK GS
  have HO2 := Lib.hid (row_same HO.out he2)
  have HB := Lib.hid hb2
  clear he2 HO hb2
  go_wp2_with (refine wpList_store_rec (q := seq) (s := 0) rfl _ _ rfl rfl rfl _ rfl HZ2 ?_)
  intro w3 h3 hl3 hs3 he3
  have HO3 := Lib.hid (row_same HO2.out fun j hj => he3 j (by omega))
  obtain ⟨y0, y1, y2, y3, y4, y5⟩ := rec_cells h3
  have hbe : Below w.heap.size w w3 := HB.out.trans hl3
  clear hl3 hs3
  go_wp2
  refine bodyPost_ret (v := .tuple #[recA 3 seq 0 (.slice ah nh ch) (.slice none 0 0) 0, .bool true]) ?_ rfl ⟨_, _, rfl, row_down (show w.heap.size ≤ w0.heap.size by omega) HO3.out, World.ownsRow_nil _ _ _ _, hbe⟩
  rw [results_cell_tmp rfl]
  go_simp
set_option maxHeartbeats 4000000 in
theorem read_3n (s : ByteArray) (hs : s.size ≤ maxLen) (h : 13 ≤ s.size) (hk : kindOf s = 3) (h2 : HomesBad s) (w : World) :
    Calls Tryz.prog 110 #[.string s] w fun e w' => ∃ ah nh ch am nm cm, e = .returned (.tuple #[recA 3 (leN (fieldAt s 5 8)) 0 (.slice ah nh ch) (.slice am nm cm) 0, .bool false]) ∧ Below w.heap.size w w' := by
  have RH := Lib.hid (fun w => homes_no s hs h2 w)
  have gh : Tryz.prog.stoodInHeld 134 = false := by kernel_rfl
  have hq : leN (fieldAt s 5 8) < 18446744073709551616 := by
    have h2 := leN_lt (fieldAt s 5 8)
    rw [fieldAt_length s 5 8 (by omega)] at h2
    have h4 : (256 : Nat) ^ 8 = 18446744073709551616 := by decide
    omega
  have GS : Hid (∀ w, Calls Tryz.prog 122 #[.string s, .int .i64 5, .int .i64 8] w fun e w' => e = .returned (.tuple #[.int .u64 (leN (fieldAt s 5 8) : Int), .bool true]) ∧ w = w') := Lib.hid fun w => get_yes s hs 5 8 (by omega) (by omega) w
  have GK : Hid (∀ w, Calls Tryz.prog 121 #[.string s, .int .i64 4, .int .i64 1] w fun e w' => e = .returned (.tuple #[.int .i64 (kindOf s : Int), .bool true]) ∧ w = w') := Lib.hid fun w => geti_yes s hs 4 1 (by omega) (by omega) w
  rw [hk] at GK
  generalize leN (fieldAt s 5 8) = seq at *
  obtain ⟨w0, hw0⟩ : ∃ w0, (w.alloc (.cells zeroC 134)).alloc (.cells #[.int .i64 3, .int .u64 (seq : Int), .int .i64 0, .slice none 0 0, .slice none 0 0, .int .u32 0] 134) = w0 := ⟨_, rfl⟩
  have hb0 : Below w.heap.size w w0 := by rw [← hw0]; exact balloc (balloc1 w _) _
  have HZ : Blk w.heap.size zeroC 134 w0 := by rw [← hw0]; exact (Blk.new _ _ w).kept1 (balloc1 _ _)
  have HR : RecAt (w.heap.size + 1) 3 seq 0 (.slice none 0 0) (.slice none 0 0) 0 w0 := by
    rw [← hw0]
    have := Blk.new #[.int .i64 3, .int .u64 (seq : Int), .int .i64 0, .slice none 0 0, .slice none 0 0, .int .u32 0] 134 (w.alloc (.cells zeroC 134))
    rw [size_alloc] at this
    exact this
  have hs0 : w0.heap.size = w.heap.size + 2 := by rw [← hw0, size_alloc, size_alloc]
  have HW0 := Lib.hid hw0
  clear hw0
  go_enter Tryz.func110, Tryz.ntmps110
  go_wp2_with fail
  refine (GK.out _).mono ?_; rintro e w1 ⟨rfl, rfl⟩
  go_wp2_with fail
  refine (GS.out _).mono ?_; rintro e w1 ⟨rfl, rfl⟩
  go_wp2_with fail
  rw [HW0.out]
  clear HW0
  refine (RH.out _).mono ?_; rintro e w1 ⟨ah, nh, ch, rfl, b⟩
  clear h h2 RH
  have HZ1 := HZ.kept1 b
  have HR1 := HR.kept1 b
  have hs1 := b.size
  obtain ⟨x0, x1, x2, x3, x4, x5⟩ := rec_cells HR1
  have fz1 := fun j => HR1.frozen j
  have hb1 := bnext hb0 b
  obtain ⟨w2, hw2⟩ : ∃ w2, w1.setCell ⟨w.heap.size + 1, 3, none⟩ (.slice ah nh ch) = w2 := ⟨_, rfl⟩
  have HR2 : RecAt (w.heap.size + 1) 3 seq 0 (.slice ah nh ch) (.slice none 0 0) 0 w2 := by rw [← hw2]; exact HR1.set 3 _
  have HZ2 : Blk w.heap.size zeroC 134 w2 := by rw [← hw2]; exact HZ1.other (by show w.heap.size + 1 ≠ w.heap.size; omega) _
  have hs2 : w2.heap.size = w1.heap.size := by rw [← hw2]; exact ksize_set _ _ _
  have hb2 : Below w.heap.size w w2 := by rw [← hw2]; exact hb1.setCell (show w.heap.size ≤ w.heap.size + 1 by omega) _
  have he2 : ∀ j, w0.heap.size ≤ j → w2.heap[j]? = w1.heap[j]? := fun j hj => by rw [← hw2]; exact Below.heap_setCell w1 _ _ j (by show j ≠ w.heap.size + 1; omega)
  obtain ⟨z0, z1, z2, z3, z4, z5⟩ := rec_cells HR2
  clear HZ HR HZ1 HR1 b hb1 hb0 GK GS
  have HB := Lib.hid hb2
  clear he2 hb2
  go_wp2_with (refine wpList_store_rec (q := seq) (s := 0) rfl _ _ rfl rfl rfl _ rfl HZ2 ?_)
  intro w3 h3 hl3 hs3 he3
  obtain ⟨y0, y1, y2, y3, y4, y5⟩ := rec_cells h3
  have hbe : Below w.heap.size w w3 := HB.out.trans hl3
  clear hl3 hs3
  go_wp2
  refine bodyPost_ret (v := .tuple #[recA 3 seq 0 (.slice ah nh ch) (.slice none 0 0) 0, .bool false]) ?_ rfl ⟨_, _, _, _, _, _, rfl, hbe⟩
  rw [results_cell_tmp rfl]
  go_simp
set_option maxHeartbeats 4000000 in
theorem read_2h (s : ByteArray) (hs : s.size ≤ maxLen) (h : 13 ≤ s.size) (hk : kindOf s = 2) (h2 : HomesBad s) (w : World) :
    Calls Tryz.prog 110 #[.string s] w fun e w' => ∃ ah nh ch am nm cm, e = .returned (.tuple #[recA 2 (leN (fieldAt s 5 8)) 0 (.slice ah nh ch) (.slice am nm cm) 0, .bool false]) ∧ Below w.heap.size w w' := by
  have RH := Lib.hid (fun w => homes_no s hs h2 w)
  have gh : Tryz.prog.stoodInHeld 134 = false := by kernel_rfl
  have hq : leN (fieldAt s 5 8) < 18446744073709551616 := by
    have h2 := leN_lt (fieldAt s 5 8)
    rw [fieldAt_length s 5 8 (by omega)] at h2
    have h4 : (256 : Nat) ^ 8 = 18446744073709551616 := by decide
    omega
  have GS : Hid (∀ w, Calls Tryz.prog 122 #[.string s, .int .i64 5, .int .i64 8] w fun e w' => e = .returned (.tuple #[.int .u64 (leN (fieldAt s 5 8) : Int), .bool true]) ∧ w = w') := Lib.hid fun w => get_yes s hs 5 8 (by omega) (by omega) w
  have GK : Hid (∀ w, Calls Tryz.prog 121 #[.string s, .int .i64 4, .int .i64 1] w fun e w' => e = .returned (.tuple #[.int .i64 (kindOf s : Int), .bool true]) ∧ w = w') := Lib.hid fun w => geti_yes s hs 4 1 (by omega) (by omega) w
  rw [hk] at GK
  generalize leN (fieldAt s 5 8) = seq at *
  obtain ⟨w0, hw0⟩ : ∃ w0, (w.alloc (.cells zeroC 134)).alloc (.cells #[.int .i64 2, .int .u64 (seq : Int), .int .i64 0, .slice none 0 0, .slice none 0 0, .int .u32 0] 134) = w0 := ⟨_, rfl⟩
  have hb0 : Below w.heap.size w w0 := by rw [← hw0]; exact balloc (balloc1 w _) _
  have HZ : Blk w.heap.size zeroC 134 w0 := by rw [← hw0]; exact (Blk.new _ _ w).kept1 (balloc1 _ _)
  have HR : RecAt (w.heap.size + 1) 2 seq 0 (.slice none 0 0) (.slice none 0 0) 0 w0 := by
    rw [← hw0]
    have := Blk.new #[.int .i64 2, .int .u64 (seq : Int), .int .i64 0, .slice none 0 0, .slice none 0 0, .int .u32 0] 134 (w.alloc (.cells zeroC 134))
    rw [size_alloc] at this
    exact this
  have hs0 : w0.heap.size = w.heap.size + 2 := by rw [← hw0, size_alloc, size_alloc]
  have HW0 := Lib.hid hw0
  clear hw0
  go_enter Tryz.func110, Tryz.ntmps110
  go_wp2_with fail
  refine (GK.out _).mono ?_; rintro e w1 ⟨rfl, rfl⟩
  go_wp2_with fail
  refine (GS.out _).mono ?_; rintro e w1 ⟨rfl, rfl⟩
  go_wp2_with fail
  rw [HW0.out]
  clear HW0
  refine (RH.out _).mono ?_; rintro e w1 ⟨ah, nh, ch, rfl, b⟩
  clear h h2 RH
  have HZ1 := HZ.kept1 b
  have HR1 := HR.kept1 b
  have hs1 := b.size
  obtain ⟨x0, x1, x2, x3, x4, x5⟩ := rec_cells HR1
  have fz1 := fun j => HR1.frozen j
  have hb1 := bnext hb0 b
  obtain ⟨w2, hw2⟩ : ∃ w2, w1.setCell ⟨w.heap.size + 1, 3, none⟩ (.slice ah nh ch) = w2 := ⟨_, rfl⟩
  have HR2 : RecAt (w.heap.size + 1) 2 seq 0 (.slice ah nh ch) (.slice none 0 0) 0 w2 := by rw [← hw2]; exact HR1.set 3 _
  have HZ2 : Blk w.heap.size zeroC 134 w2 := by rw [← hw2]; exact HZ1.other (by show w.heap.size + 1 ≠ w.heap.size; omega) _
  have hs2 : w2.heap.size = w1.heap.size := by rw [← hw2]; exact ksize_set _ _ _
  have hb2 : Below w.heap.size w w2 := by rw [← hw2]; exact hb1.setCell (show w.heap.size ≤ w.heap.size + 1 by omega) _
  have he2 : ∀ j, w0.heap.size ≤ j → w2.heap[j]? = w1.heap[j]? := fun j hj => by rw [← hw2]; exact Below.heap_setCell w1 _ _ j (by show j ≠ w.heap.size + 1; omega)
  obtain ⟨z0, z1, z2, z3, z4, z5⟩ := rec_cells HR2
  clear HZ HR HZ1 HR1 b hb1 hb0 GK GS
  have HB := Lib.hid hb2
  clear he2 hb2
  go_wp2_with (refine wpList_store_rec (q := seq) (s := 0) rfl _ _ rfl rfl rfl _ rfl HZ2 ?_)
  intro w3 h3 hl3 hs3 he3
  obtain ⟨y0, y1, y2, y3, y4, y5⟩ := rec_cells h3
  have hbe : Below w.heap.size w w3 := HB.out.trans hl3
  clear hl3 hs3
  go_wp2
  refine bodyPost_ret (v := .tuple #[recA 2 seq 0 (.slice ah nh ch) (.slice none 0 0) 0, .bool false]) ?_ rfl ⟨_, _, _, _, _, _, rfl, hbe⟩
  rw [results_cell_tmp rfl]
  go_simp
set_option maxHeartbeats 4000000 in
theorem read_2 (s : ByteArray) (hs : s.size ≤ maxLen) (h : 13 ≤ s.size) (hk : kindOf s = 2) (h14 : 14 ≤ s.size) (h2 : 14 + 2 * countOf s ≤ s.size) (h3 : 14 + 3 * countOf s ≤ s.size) (w : World) :
    Calls Tryz.prog 110 #[.string s] w fun e w' => ∃ vh vm, e = .returned (.tuple #[recA 2 (leN (fieldAt s 5 8)) 0 vh vm 0, .bool true]) ∧ IntsOwn w.heap.size vh (homesOf s (countOf s)) w' ∧ BoolsOwn w.heap.size vm (marksOf s (countOf s) (countOf s)) w' ∧ Below w.heap.size w w' := by
  have hc := count_lt h14
  have RH := (fun w => homes_yes s hs h14 h2 w)
  have RM := (fun w => marks_yes s hs (countOf s) hc h3 w)
  generalize countOf s = nh at *
  have RH := Lib.hid RH
  have RM := Lib.hid RM
  have gh : Tryz.prog.stoodInHeld 134 = false := by kernel_rfl
  have hq : leN (fieldAt s 5 8) < 18446744073709551616 := by
    have h2 := leN_lt (fieldAt s 5 8)
    rw [fieldAt_length s 5 8 (by omega)] at h2
    have h4 : (256 : Nat) ^ 8 = 18446744073709551616 := by decide
    omega
  have GS : Hid (∀ w, Calls Tryz.prog 122 #[.string s, .int .i64 5, .int .i64 8] w fun e w' => e = .returned (.tuple #[.int .u64 (leN (fieldAt s 5 8) : Int), .bool true]) ∧ w = w') := Lib.hid fun w => get_yes s hs 5 8 (by omega) (by omega) w
  have GK : Hid (∀ w, Calls Tryz.prog 121 #[.string s, .int .i64 4, .int .i64 1] w fun e w' => e = .returned (.tuple #[.int .i64 (kindOf s : Int), .bool true]) ∧ w = w') := Lib.hid fun w => geti_yes s hs 4 1 (by omega) (by omega) w
  rw [hk] at GK
  generalize leN (fieldAt s 5 8) = seq at *
  obtain ⟨w0, hw0⟩ : ∃ w0, (w.alloc (.cells zeroC 134)).alloc (.cells #[.int .i64 2, .int .u64 (seq : Int), .int .i64 0, .slice none 0 0, .slice none 0 0, .int .u32 0] 134) = w0 := ⟨_, rfl⟩
  have hb0 : Below w.heap.size w w0 := by rw [← hw0]; exact balloc (balloc1 w _) _
  have HZ : Blk w.heap.size zeroC 134 w0 := by rw [← hw0]; exact (Blk.new _ _ w).kept1 (balloc1 _ _)
  have HR : RecAt (w.heap.size + 1) 2 seq 0 (.slice none 0 0) (.slice none 0 0) 0 w0 := by
    rw [← hw0]
    have := Blk.new #[.int .i64 2, .int .u64 (seq : Int), .int .i64 0, .slice none 0 0, .slice none 0 0, .int .u32 0] 134 (w.alloc (.cells zeroC 134))
    rw [size_alloc] at this
    exact this
  have hs0 : w0.heap.size = w.heap.size + 2 := by rw [← hw0, size_alloc, size_alloc]
  have HW0 := Lib.hid hw0
  clear hw0
  go_enter Tryz.func110, Tryz.ntmps110
  go_wp2_with fail
  refine (GK.out _).mono ?_; rintro e w1 ⟨rfl, rfl⟩
  go_wp2_with fail
  refine (GS.out _).mono ?_; rintro e w1 ⟨rfl, rfl⟩
  go_wp2_with fail
  rw [HW0.out]
  clear HW0
  refine (RH.out _).mono ?_; rintro e w1 ⟨vh, rfl, hown, b⟩
  obtain ⟨ah, ch, hv, -⟩ := shape_of hown
  rw [homesOf_length] at hv
  subst hv
  clear h h14 h2 h3 RH
  have HO := Lib.hid hown
  clear hown
  have HZ1 := HZ.kept1 b
  have HR1 := HR.kept1 b
  have hs1 := b.size
  obtain ⟨x0, x1, x2, x3, x4, x5⟩ := rec_cells HR1
  have fz1 := fun j => HR1.frozen j
  have hb1 := bnext hb0 b
  obtain ⟨w2, hw2⟩ : ∃ w2, w1.setCell ⟨w.heap.size + 1, 3, none⟩ (.slice ah nh ch) = w2 := ⟨_, rfl⟩
  have HR2 : RecAt (w.heap.size + 1) 2 seq 0 (.slice ah nh ch) (.slice none 0 0) 0 w2 := by rw [← hw2]; exact HR1.set 3 _
  have HZ2 : Blk w.heap.size zeroC 134 w2 := by rw [← hw2]; exact HZ1.other (by show w.heap.size + 1 ≠ w.heap.size; omega) _
  have hs2 : w2.heap.size = w1.heap.size := by rw [← hw2]; exact ksize_set _ _ _
  have hb2 : Below w.heap.size w w2 := by rw [← hw2]; exact hb1.setCell (show w.heap.size ≤ w.heap.size + 1 by omega) _
  have he2 : ∀ j, w0.heap.size ≤ j → w2.heap[j]? = w1.heap[j]? := fun j hj => by rw [← hw2]; exact Below.heap_setCell w1 _ _ j (by show j ≠ w.heap.size + 1; omega)
  obtain ⟨z0, z1, z2, z3, z4, z5⟩ := rec_cells HR2
  clear HZ HR HZ1 HR1 b hb1 hb0 GK GS
  have HO2 := Lib.hid (row_same HO.out he2)
  have HB := Lib.hid hb2
  clear he2 HO hb2
  go_wp2_with fail
  refine (RM.out _).mono ?_; rintro e w4 ⟨vm, rfl, hm, b⟩
  have hsh : ∃ am cm, vm = .slice am nh cm := by
    obtain ⟨am, cm, hv, -⟩ := shape_of hm
    rw [marksOf_length] at hv
    exact ⟨am, cm, hv⟩
  obtain ⟨am, cm, rfl⟩ := hsh
  obtain ⟨nm, hnm⟩ : ∃ n, n = nh := ⟨_, rfl⟩
  have HM := Lib.hid hm
  have HO4 := Lib.hid (row_kept HO2.out b)
  clear hm HO2 hnm nm
  have HZ4 := HZ2.kept1 b
  have HR4 := HR2.kept1 b
  have hs4 := b.size
  have hb4 := bnext HB.out b
  obtain ⟨x0, x1, x2, x3, x4, x5⟩ := rec_cells HR4
  have fz4 := fun j => HR4.frozen j
  obtain ⟨w5, hw5⟩ : ∃ w5, w4.setCell ⟨w.heap.size + 1, 4, none⟩ (.slice am nh cm) = w5 := ⟨_, rfl⟩
  have HR5 : RecAt (w.heap.size + 1) 2 seq 0 (.slice ah nh ch) (.slice am nh cm) 0 w5 := by rw [← hw5]; exact HR4.set 4 _
  have HZ5 : Blk w.heap.size zeroC 134 w5 := by rw [← hw5]; exact HZ4.other (by show w.heap.size + 1 ≠ w.heap.size; omega) _
  have hs5 : w5.heap.size = w4.heap.size := by rw [← hw5]; exact ksize_set _ _ _
  have he5 : ∀ j, w0.heap.size ≤ j → w5.heap[j]? = w4.heap[j]? := fun j hj => by rw [← hw5]; exact Below.heap_setCell w4 _ _ j (by show j ≠ w.heap.size + 1; omega)
  have hb5 : Below w.heap.size w w5 := by rw [← hw5]; exact hb4.setCell (show w.heap.size ≤ w.heap.size + 1 by omega) _
  clear HB
  have HB := Lib.hid hb5
  obtain ⟨z0, z1, z2, z3, z4, z5⟩ := rec_cells HR5
  have HO5 := Lib.hid (row_same HO4.out he5)
  have HM5 := Lib.hid (row_same HM.out fun j hj => he5 j (by omega))
  clear HZ2 HR2 HZ4 HR4 b hb4 hb5 hw2 he5 HO4 HM
  go_wp2_with (refine wpList_store_rec (q := seq) (s := 0) rfl _ _ rfl rfl rfl _ rfl HZ5 ?_)
  intro w3 h3 hl3 hs3 he3
  have HO6 := Lib.hid (row_same HO5.out fun j hj => he3 j (by omega))
  have HM6 := Lib.hid (row_same HM5.out fun j hj => he3 j (by omega))
  obtain ⟨y0, y1, y2, y3, y4, y5⟩ := rec_cells h3
  have hbe : Below w.heap.size w w3 := HB.out.trans hl3
  clear hl3 hs3
  go_wp2
  refine bodyPost_ret (v := .tuple #[recA 2 seq 0 (.slice ah nh ch) (.slice am nh cm) 0, .bool true]) ?_ rfl ⟨_, _, rfl, row_down (show w.heap.size ≤ w0.heap.size by omega) HO6.out, row_down (show w.heap.size ≤ w2.heap.size by omega) HM6.out, hbe⟩
  rw [results_cell_tmp rfl]
  go_simp
set_option maxHeartbeats 4000000 in
theorem read_2m (s : ByteArray) (hs : s.size ≤ maxLen) (h : 13 ≤ s.size) (hk : kindOf s = 2) (h14 : 14 ≤ s.size) (h2 : 14 + 2 * countOf s ≤ s.size) (h3 : ¬ 14 + 3 * countOf s ≤ s.size) (w : World) :
    Calls Tryz.prog 110 #[.string s] w fun e w' => ∃ ah nh ch am nm cm, e = .returned (.tuple #[recA 2 (leN (fieldAt s 5 8)) 0 (.slice ah nh ch) (.slice am nm cm) 0, .bool false]) ∧ Below w.heap.size w w' := by
  have hc := count_lt h14
  have RH := (fun w => homes_yes s hs h14 h2 w)
  have RM := (fun w => marks_no s hs (countOf s) hc h2 h3 w)
  generalize countOf s = nh at *
  have RH := Lib.hid RH
  have RM := Lib.hid RM
  have gh : Tryz.prog.stoodInHeld 134 = false := by kernel_rfl
  have hq : leN (fieldAt s 5 8) < 18446744073709551616 := by
    have h2 := leN_lt (fieldAt s 5 8)
    rw [fieldAt_length s 5 8 (by omega)] at h2
    have h4 : (256 : Nat) ^ 8 = 18446744073709551616 := by decide
    omega
  have GS : Hid (∀ w, Calls Tryz.prog 122 #[.string s, .int .i64 5, .int .i64 8] w fun e w' => e = .returned (.tuple #[.int .u64 (leN (fieldAt s 5 8) : Int), .bool true]) ∧ w = w') := Lib.hid fun w => get_yes s hs 5 8 (by omega) (by omega) w
  have GK : Hid (∀ w, Calls Tryz.prog 121 #[.string s, .int .i64 4, .int .i64 1] w fun e w' => e = .returned (.tuple #[.int .i64 (kindOf s : Int), .bool true]) ∧ w = w') := Lib.hid fun w => geti_yes s hs 4 1 (by omega) (by omega) w
  rw [hk] at GK
  generalize leN (fieldAt s 5 8) = seq at *
  obtain ⟨w0, hw0⟩ : ∃ w0, (w.alloc (.cells zeroC 134)).alloc (.cells #[.int .i64 2, .int .u64 (seq : Int), .int .i64 0, .slice none 0 0, .slice none 0 0, .int .u32 0] 134) = w0 := ⟨_, rfl⟩
  have hb0 : Below w.heap.size w w0 := by rw [← hw0]; exact balloc (balloc1 w _) _
  have HZ : Blk w.heap.size zeroC 134 w0 := by rw [← hw0]; exact (Blk.new _ _ w).kept1 (balloc1 _ _)
  have HR : RecAt (w.heap.size + 1) 2 seq 0 (.slice none 0 0) (.slice none 0 0) 0 w0 := by
    rw [← hw0]
    have := Blk.new #[.int .i64 2, .int .u64 (seq : Int), .int .i64 0, .slice none 0 0, .slice none 0 0, .int .u32 0] 134 (w.alloc (.cells zeroC 134))
    rw [size_alloc] at this
    exact this
  have hs0 : w0.heap.size = w.heap.size + 2 := by rw [← hw0, size_alloc, size_alloc]
  have HW0 := Lib.hid hw0
  clear hw0
  go_enter Tryz.func110, Tryz.ntmps110
  go_wp2_with fail
  refine (GK.out _).mono ?_; rintro e w1 ⟨rfl, rfl⟩
  go_wp2_with fail
  refine (GS.out _).mono ?_; rintro e w1 ⟨rfl, rfl⟩
  go_wp2_with fail
  rw [HW0.out]
  clear HW0
  refine (RH.out _).mono ?_; rintro e w1 ⟨vh, rfl, hown, b⟩
  obtain ⟨ah, ch, hv, -⟩ := shape_of hown
  rw [homesOf_length] at hv
  subst hv
  clear h h14 h2 h3 RH
  have HO := Lib.hid hown
  clear hown
  have HZ1 := HZ.kept1 b
  have HR1 := HR.kept1 b
  have hs1 := b.size
  obtain ⟨x0, x1, x2, x3, x4, x5⟩ := rec_cells HR1
  have fz1 := fun j => HR1.frozen j
  have hb1 := bnext hb0 b
  obtain ⟨w2, hw2⟩ : ∃ w2, w1.setCell ⟨w.heap.size + 1, 3, none⟩ (.slice ah nh ch) = w2 := ⟨_, rfl⟩
  have HR2 : RecAt (w.heap.size + 1) 2 seq 0 (.slice ah nh ch) (.slice none 0 0) 0 w2 := by rw [← hw2]; exact HR1.set 3 _
  have HZ2 : Blk w.heap.size zeroC 134 w2 := by rw [← hw2]; exact HZ1.other (by show w.heap.size + 1 ≠ w.heap.size; omega) _
  have hs2 : w2.heap.size = w1.heap.size := by rw [← hw2]; exact ksize_set _ _ _
  have hb2 : Below w.heap.size w w2 := by rw [← hw2]; exact hb1.setCell (show w.heap.size ≤ w.heap.size + 1 by omega) _
  have he2 : ∀ j, w0.heap.size ≤ j → w2.heap[j]? = w1.heap[j]? := fun j hj => by rw [← hw2]; exact Below.heap_setCell w1 _ _ j (by show j ≠ w.heap.size + 1; omega)
  obtain ⟨z0, z1, z2, z3, z4, z5⟩ := rec_cells HR2
  clear HZ HR HZ1 HR1 b hb1 hb0 GK GS
  have HO2 := Lib.hid (row_same HO.out he2)
  have HB := Lib.hid hb2
  clear he2 HO hb2
  go_wp2_with fail
  refine (RM.out _).mono ?_; rintro e w4 ⟨am, nm, cm, rfl, b⟩
  have HZ4 := HZ2.kept1 b
  have HR4 := HR2.kept1 b
  have hs4 := b.size
  have hb4 := bnext HB.out b
  obtain ⟨x0, x1, x2, x3, x4, x5⟩ := rec_cells HR4
  have fz4 := fun j => HR4.frozen j
  obtain ⟨w5, hw5⟩ : ∃ w5, w4.setCell ⟨w.heap.size + 1, 4, none⟩ (.slice am nm cm) = w5 := ⟨_, rfl⟩
  have HR5 : RecAt (w.heap.size + 1) 2 seq 0 (.slice ah nh ch) (.slice am nm cm) 0 w5 := by rw [← hw5]; exact HR4.set 4 _
  have HZ5 : Blk w.heap.size zeroC 134 w5 := by rw [← hw5]; exact HZ4.other (by show w.heap.size + 1 ≠ w.heap.size; omega) _
  have hs5 : w5.heap.size = w4.heap.size := by rw [← hw5]; exact ksize_set _ _ _
  have he5 : ∀ j, w0.heap.size ≤ j → w5.heap[j]? = w4.heap[j]? := fun j hj => by rw [← hw5]; exact Below.heap_setCell w4 _ _ j (by show j ≠ w.heap.size + 1; omega)
  have hb5 : Below w.heap.size w w5 := by rw [← hw5]; exact hb4.setCell (show w.heap.size ≤ w.heap.size + 1 by omega) _
  clear HB
  have HB := Lib.hid hb5
  obtain ⟨z0, z1, z2, z3, z4, z5⟩ := rec_cells HR5
  clear HZ2 HR2 HZ4 HR4 b hb4 hb5 hw2 he5
  go_wp2_with (refine wpList_store_rec (q := seq) (s := 0) rfl _ _ rfl rfl rfl _ rfl HZ5 ?_)
  intro w3 h3 hl3 hs3 he3
  obtain ⟨y0, y1, y2, y3, y4, y5⟩ := rec_cells h3
  have hbe : Below w.heap.size w w3 := HB.out.trans hl3
  clear hl3 hs3
  go_wp2
  refine bodyPost_ret (v := .tuple #[recA 2 seq 0 (.slice ah nh ch) (.slice am nm cm) 0, .bool false]) ?_ rfl ⟨_, _, _, _, _, _, rfl, hbe⟩
  rw [results_cell_tmp rfl]
  go_simp
end Go.Proofs.YtanghmogeiiooaaGreatDoor

/- read, all of it. -/
namespace Go.Proofs.YtanghmogeiiooaaGreatDoor
set_option linter.unusedVariables false
open Go.RowKit

/-! ### all of it -/
theorem read_yes (s : ByteArray) (hs : s.size ≤ maxLen) (h : ReadOk s) (w : World) :
    Calls Tryz.prog 110 #[.string s] w fun e w' => ∃ vh vm, e = .returned (.tuple #[recV (readR s) vh vm, .bool true]) ∧ RecOwn w.heap.size (readR s) vh vm w' ∧ Below w.heap.size w w' := by
  obtain ⟨h0, h1, h2, h3, h4⟩ := h
  by_cases k1 : kindOf s = 1
  · refine (read_1 s hs h0 k1 (h1 k1) w).mono ?_; rintro e w' ⟨rfl, b⟩
    refine ⟨.slice none 0 0, .slice none 0 0, ?_, ?_, b⟩
    · simp [readR, k1]
    · unfold RecOwn readR; simp [k1]; exact ⟨World.ownsRow_nil _ _ _ _, World.ownsRow_nil _ _ _ _⟩
  · by_cases k2 : kindOf s = 2
    · refine (read_2 s hs h0 k2 (h2 k2).1 (by have := h2 k2; omega) (h2 k2).2 w).mono ?_; rintro e w' ⟨vh, vm, rfl, a, c, b⟩
      refine ⟨vh, vm, ?_, ?_, b⟩
      · simp [readR, k2]
      · unfold RecOwn readR; simp only [k2]; exact ⟨by simpa using a, by simpa using c⟩
    · by_cases k3 : kindOf s = 3
      · refine (read_3 s hs h0 k3 (h3 k3).1 (h3 k3).2 w).mono ?_; rintro e w' ⟨vh, vm, rfl, a, c, b⟩
        refine ⟨vh, vm, ?_, ?_, b⟩
        · simp [readR, k3]
        · unfold RecOwn readR; simp only [k3]; exact ⟨by simpa using a, by simpa using c⟩
      · by_cases k4 : kindOf s = 4
        · refine (read_4 s hs h0 k4 (h4 k4) w).mono ?_; rintro e w' ⟨rfl, b⟩
          refine ⟨.slice none 0 0, .slice none 0 0, ?_, ?_, b⟩
          · simp [readR, k4]
          · unfold RecOwn readR; simp [k4]; exact ⟨World.ownsRow_nil _ _ _ _, World.ownsRow_nil _ _ _ _⟩
        · refine (read_0 s hs h0 k1 k2 k3 k4 w).mono ?_; rintro e w' ⟨rfl, b⟩
          refine ⟨.slice none 0 0, .slice none 0 0, ?_, ?_, b⟩
          · simp [readR, k1, k2, k3, k4]
          · unfold RecOwn readR; simp [k1, k2, k3, k4]; exact ⟨World.ownsRow_nil _ _ _ _, World.ownsRow_nil _ _ _ _⟩
theorem read_no (s : ByteArray) (hs : s.size ≤ maxLen) (h : ¬ ReadOk s) (w : World) :
    Calls Tryz.prog 110 #[.string s] w fun e w' => ∃ (k : Int) (q : Nat) (p : Int) (ah : Option Addr) (nh ch : Nat) (am : Option Addr) (nm cm m : Nat), e = .returned (.tuple #[recA k q p (.slice ah nh ch) (.slice am nm cm) m, .bool false]) ∧ Below w.heap.size w w' := by
  by_cases h0 : 13 ≤ s.size
  · by_cases k1 : kindOf s = 1
    · exact (read_1n s hs h0 k1 (fun h1 => h (by unfold ReadOk; omega)) w).mono fun e w' ⟨he, b⟩ => ⟨_, _, _, _, _, _, _, _, _, _, he, b⟩
    · by_cases k2 : kindOf s = 2
      · by_cases hb : HomesBad s
        · exact (read_2h s hs h0 k2 hb w).mono fun e w' ⟨_, _, _, _, _, _, he, b⟩ => ⟨_, _, _, _, _, _, _, _, _, _, he, b⟩
        · have hb := Classical.not_not.1 hb
          exact (read_2m s hs h0 k2 hb.1 hb.2 (fun h1 => h (by unfold ReadOk; omega)) w).mono fun e w' ⟨_, _, _, _, _, _, he, b⟩ => ⟨_, _, _, _, _, _, _, _, _, _, he, b⟩
      · by_cases k3 : kindOf s = 3
        · exact (read_3n s hs h0 k3 (fun h1 => h (by unfold ReadOk; omega)) w).mono fun e w' ⟨_, _, _, _, _, _, he, b⟩ => ⟨_, _, _, _, _, _, _, _, _, _, he, b⟩
        · by_cases k4 : kindOf s = 4
          · exact (read_4n s hs h0 k4 (fun h1 => h (by unfold ReadOk; omega)) w).mono fun e w' ⟨he, b⟩ => ⟨_, _, _, _, _, _, _, _, _, _, he, b⟩
          · exact absurd (by unfold ReadOk; omega) h
  · exact (read_short s hs (by omega) w).mono fun e w' ⟨he, b⟩ => ⟨0, 0, 0, none, 0, 0, none, 0, 0, 0, he, b⟩
end Go.Proofs.YtanghmogeiiooaaGreatDoor
