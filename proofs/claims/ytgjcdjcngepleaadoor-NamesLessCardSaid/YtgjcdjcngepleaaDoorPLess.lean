/- The walk of NamesLess. -/
import Derived.Test.YtgjcdjcngepleaaDoorPLaw5
namespace Go.Proofs.YtgjcdjcngepleaaDoor
set_option linter.unusedVariables false
open Go.RowKit

set_option maxRecDepth 100000 in
set_option maxHeartbeats 2000000 in
theorem less_root_bad (s part : ByteArray) (w : World) (hs : s.size ≤ 256) (hp : part.size ≤ 5000) (t1 : decide ((5000 : Int) < (s.size : Int)) = false) (t2 : decide ((5000 : Int) < (part.size : Int)) = false)
    (AL : Hid (∀ w, Calls Tryd.prog 14 #[] w fun e w' => e = .returned (.bool true) ∧ Below w.heap.size w w'))
    (S1 : Hid (∀ w, Calls Tryd.prog 9 #[.string s] w fun e w' => ∃ v, e = .returned (.tuple #[v, .int .i64 0]) ∧ StrsAt w.heap.size v [] w' ∧ Below w.heap.size w w'))
    (F : Int) (tF : (F != 0) = true) (C1 : Hid (∀ w, Calls Tryd.prog 11 #[.string part] w fun e w' => e = .returned (.int .i64 F) ∧ Below w.heap.size w w')) :
    Calls Tryd.prog 6 #[.string s, .string part] w fun e w' => e = .returned (.bool true) ∧ Below w.heap.size w w' := by
  go_enter Tryd.func6, Tryd.ntmps6
  go_wp2_with fail
  refine (S1.out _).mono ?_; rintro e w1 ⟨v1, rfl, hv1, b1⟩
  obtain ⟨ad1, cap1, ev1, h11, h12, had⟩ := shape_of hv1
  subst ev1
  have HV := Lib.hid (strsAt_in hv1)
  have HB := Lib.hid b1
  clear hv1 b1 had S1
  go_wp2_with fail
  refine (C1.out _).mono ?_; rintro e w5 ⟨rfl, b5⟩
  have HV5 := Lib.hid (HV.out.kept b5)
  have HB5 := Lib.hid (bnext HB.out b5)
  clear b5 HV HB C1
  have HBz := HB5
  clear HB5 HV5
  go_wp2_with fail
  refine (AL.out _).mono ?_; rintro e wz ⟨rfl, bz⟩
  go_wp2
  go_ret
  exact ⟨rfl, bnext HBz.out bz⟩
set_option maxRecDepth 100000 in
set_option maxHeartbeats 2000000 in
theorem less_root_long (s part : ByteArray) (w : World) (hs : s.size ≤ 256) (hp : part.size ≤ 5000) (t1 : decide ((5000 : Int) < (s.size : Int)) = false) (t2 : decide ((5000 : Int) < (part.size : Int)) = false)
    (AL : Hid (∀ w, Calls Tryd.prog 14 #[] w fun e w' => e = .returned (.bool true) ∧ Below w.heap.size w w'))
    (S1 : Hid (∀ w, Calls Tryd.prog 9 #[.string s] w fun e w' => ∃ v, e = .returned (.tuple #[v, .int .i64 0]) ∧ StrsAt w.heap.size v [] w' ∧ Below w.heap.size w w'))
    (C1 : Hid (∀ w, Calls Tryd.prog 11 #[.string part] w fun e w' => e = .returned (.int .i64 0) ∧ Below w.heap.size w w')) (P1 P2 : ByteArray)
    (e1 : ∀ w, (Op.stringOp .add s ⟨#[47]⟩).run Tryd.prog w = .ok (.string P1) w) (e2 : ∀ w, (Op.stringOp .add P1 part).run Tryd.prog w = .ok (.string P2) w)
    (P3 : ByteArray) (e3 : ∀ w, (Op.stringOp .add s part).run Tryd.prog w = .ok (.string P3) w) (ts : (s.toList == [47]) = true)
    (t7 : decide ((256 : Int) < (P3.size : Int)) = true) (S7 : Hid (∀ w, Calls Tryd.prog 9 #[.string P3] w fun e w' => ∃ v, e = .returned (.tuple #[v, .int .i64 3]) ∧ StrsAt w.heap.size v [] w' ∧ Below w.heap.size w w')) :
    Calls Tryd.prog 6 #[.string s, .string part] w fun e w' => e = .returned (.bool true) ∧ Below w.heap.size w w' := by
  go_enter Tryd.func6, Tryd.ntmps6
  go_wp2_with fail
  refine (S1.out _).mono ?_; rintro e w1 ⟨v1, rfl, hv1, b1⟩
  obtain ⟨ad1, cap1, ev1, h11, h12, had⟩ := shape_of hv1
  subst ev1
  have HV := Lib.hid (strsAt_in hv1)
  have HB := Lib.hid b1
  clear hv1 b1 had S1
  go_wp2_with fail
  refine (C1.out _).mono ?_; rintro e w5 ⟨rfl, b5⟩
  have HV5 := Lib.hid (HV.out.kept b5)
  have HB5 := Lib.hid (bnext HB.out b5)
  clear b5 HV HB C1
  go_wp2_with fail
  refine (S7.out _).mono ?_; rintro e w6 ⟨v6, rfl, hv6, b6⟩
  obtain ⟨ad6, cap6, ev6, -⟩ := shape_of hv6
  subst ev6
  have HV6 := Lib.hid (HV5.out.kept b6)
  have HB6 := Lib.hid (bnext HB5.out b6)
  have HR6 := Lib.hid (strsAt_in hv6)
  clear b6 HV5 HB5 hv6 S7
  have HBz := HB6
  clear HB6 HV6 HR6
  go_wp2_with fail
  refine (AL.out _).mono ?_; rintro e wz ⟨rfl, bz⟩
  go_wp2
  go_ret
  exact ⟨rfl, bnext HBz.out bz⟩
set_option maxRecDepth 100000 in
set_option maxHeartbeats 2000000 in
theorem less_root_fits (s part : ByteArray) (w : World) (hs : s.size ≤ 256) (hp : part.size ≤ 5000) (t1 : decide ((5000 : Int) < (s.size : Int)) = false) (t2 : decide ((5000 : Int) < (part.size : Int)) = false)
    (AL : Hid (∀ w, Calls Tryd.prog 14 #[] w fun e w' => e = .returned (.bool true) ∧ Below w.heap.size w w'))
    (S1 : Hid (∀ w, Calls Tryd.prog 9 #[.string s] w fun e w' => ∃ v, e = .returned (.tuple #[v, .int .i64 0]) ∧ StrsAt w.heap.size v [] w' ∧ Below w.heap.size w w'))
    (C1 : Hid (∀ w, Calls Tryd.prog 11 #[.string part] w fun e w' => e = .returned (.int .i64 0) ∧ Below w.heap.size w w')) (P1 P2 : ByteArray)
    (e1 : ∀ w, (Op.stringOp .add s ⟨#[47]⟩).run Tryd.prog w = .ok (.string P1) w) (e2 : ∀ w, (Op.stringOp .add P1 part).run Tryd.prog w = .ok (.string P2) w)
    (P3 : ByteArray) (e3 : ∀ w, (Op.stringOp .add s part).run Tryd.prog w = .ok (.string P3) w) (ts : (s.toList == [47]) = true)
    (t7 : decide ((256 : Int) < (P3.size : Int)) = false) (S7 : Hid (∀ w, Calls Tryd.prog 9 #[.string P3] w fun e w' => ∃ v, e = .returned (.tuple #[v, .int .i64 0]) ∧ StrsAt w.heap.size v ([] ++ [part]) w' ∧ Below w.heap.size w w')) (SM7 : Hid (∀ v u w, StrsIn v ([] ++ [part]) w → StrsIn u ([] ++ [part]) w → Calls Tryd.prog 13 #[v, u] w fun e w' => e = .returned (.bool true) ∧ Below w.heap.size w w')) :
    Calls Tryd.prog 6 #[.string s, .string part] w fun e w' => e = .returned (.bool true) ∧ Below w.heap.size w w' := by
  go_enter Tryd.func6, Tryd.ntmps6
  go_wp2_with fail
  refine (S1.out _).mono ?_; rintro e w1 ⟨v1, rfl, hv1, b1⟩
  obtain ⟨ad1, cap1, ev1, h11, h12, had⟩ := shape_of hv1
  subst ev1
  have HV := Lib.hid (strsAt_in hv1)
  have HB := Lib.hid b1
  clear hv1 b1 had S1
  go_wp2_with fail
  refine (C1.out _).mono ?_; rintro e w5 ⟨rfl, b5⟩
  have HV5 := Lib.hid (HV.out.kept b5)
  have HB5 := Lib.hid (bnext HB.out b5)
  clear b5 HV HB C1
  go_wp2_with fail
  refine (S7.out _).mono ?_; rintro e w6 ⟨v6, rfl, hv6, b6⟩
  obtain ⟨ad6, cap6, ev6, -⟩ := shape_of hv6
  rw [List.length_append, List.length_singleton] at ev6
  rw [List.length_nil] at ev6
  subst ev6
  have HV6 := Lib.hid (HV5.out.kept b6)
  have HB6 := Lib.hid (bnext HB5.out b6)
  have HR6 := Lib.hid (strsAt_in hv6)
  clear b6 HV5 HB5 hv6 S7
  go_wp2_with (at_builtin; refine wpList_appTMg ?hgd (.tmp 110) (.tmp 111) ?ho w6.heap.size (.slice (some ⟨w6.heap.size, 0, none⟩) 0 0) [] ?hs ?hown (.slice ad1 0 cap1) [] ?hx ?hu ?hl ?hbb ?hh)
  case ho => rfl
  case hs => rfl
  case hx => rfl
  case hown => exact strsAt_new w6 [] (by simp)
  case hu => exact HV6.out.kept (balloc1 w6 _)
  case hl => simp
  case hbb => (rw [size_alloc]; omega)
  intro v7 w7 hv7 b7
  have hv7 : StrsAt w6.heap.size v7 [] w7 := hv7
  obtain ⟨ad7, cap7, ev7, -⟩ := shape_of hv7
  subst ev7
  have c7 := (balloc1 w6 (.cells #[] 9)).trans b7
  have HC7 := Lib.hid c7
  have hz7 := c7.size
  have HV7 := Lib.hid (World.ownsRow.alloc hv7 (.cells #[.string part] 9))
  have HP7 := Lib.hid (lit_inT w7 [part] #[.string part] (by simp) rfl)
  clear b7 c7 hv7 HV6
  go_wp2_with (at_builtin; refine wpList_appTMg ?hgd2 (.tmp 112) (.tmp 114) ?ho2 w6.heap.size (.slice ad7 0 cap7) [] ?hs2 ?hown2 (.slice (some ⟨w7.heap.size, 0, none⟩) 1 1) [part] ?hx2 ?hu2 ?hl2 ?hbb2 ?hh2)
  case ho2 => rfl
  case hs2 => rfl
  case hx2 => rfl
  case hown2 => exact HV7.out
  case hu2 => exact HP7.out
  case hl2 => (simp)
  case hbb2 => (rw [size_alloc]; omega)
  intro v8 w8 hv8 b8
  have c8 := (balloc HC7.out _).trans b8
  have HR8 := Lib.hid (HR6.out.kept c8)
  have HB8 := Lib.hid (bnext HB6.out c8)
  obtain ⟨ad8, cap8, ev8, -⟩ := shape_of hv8
  have ev8 : v8 = .slice ad8 1 cap8 := ev8
  subst ev8
  have HS8 := Lib.hid (strsAt_in hv8)
  clear b8 c8 hv8 HR6 HB6 HC7 HV7 HP7
  go_wp2_with fail
  refine (SM7.out _ _ _ HR8.out HS8.out).mono ?_; rintro e w9 ⟨rfl, b9⟩
  have HBz := Lib.hid (bnext HB8.out b9)
  clear b9 HB8 HR8 HS8 SM7
  go_wp2_with fail
  refine (AL.out _).mono ?_; rintro e wz ⟨rfl, bz⟩
  go_wp2
  go_ret
  exact ⟨rfl, bnext HBz.out bz⟩
set_option maxRecDepth 100000 in
set_option maxHeartbeats 2000000 in
theorem less_one_bad (s part : ByteArray) (w : World) (hs : s.size ≤ 256) (hp : part.size ≤ 5000) (t1 : decide ((5000 : Int) < (s.size : Int)) = false) (t2 : decide ((5000 : Int) < (part.size : Int)) = false)
    (AL : Hid (∀ w, Calls Tryd.prog 14 #[] w fun e w' => e = .returned (.bool true) ∧ Below w.heap.size w w'))
    (L : List ByteArray) (m q : Nat) (p : ByteArray) (hLm : L.length = m + 1) (hm : m + 1 ≤ 16) (hpz : p.size ≤ 32) (hpm : Hid (sat L m = p)) (hq : (s.size : Int) - 1 - (p.size : Int) = (q : Int)) (hq2 : q ≤ s.size) (hs1 : 1 ≤ s.size)
    (S1 : Hid (∀ w, Calls Tryd.prog 9 #[.string s] w fun e w' => ∃ v, e = .returned (.tuple #[v, .int .i64 0]) ∧ StrsAt w.heap.size v L w' ∧ Below w.heap.size w w'))
    (tq : ((q : Int) == 0) = true) (hT : Hid (L.take m = [])) (S5 : Hid (∀ w, Calls Tryd.prog 9 #[.string (s.extract 0 q)] w fun e w' => ∃ v, e = .returned (.tuple #[v, .int .i64 130]) ∧ StrsAt w.heap.size v [] w' ∧ Below w.heap.size w w')) (S6 : Hid (∀ w, Calls Tryd.prog 9 #[.string ⟨#[47]⟩] w fun e w' => ∃ v, e = .returned (.tuple #[v, .int .i64 0]) ∧ StrsAt w.heap.size v [] w' ∧ Below w.heap.size w w')) (SM5 : Hid (∀ v u w, StrsIn v [] w → StrsIn u [] w → Calls Tryd.prog 13 #[v, u] w fun e w' => e = .returned (.bool true) ∧ Below w.heap.size w w'))
    (F : Int) (tF : (F != 0) = true) (C1 : Hid (∀ w, Calls Tryd.prog 11 #[.string part] w fun e w' => e = .returned (.int .i64 F) ∧ Below w.heap.size w w')) :
    Calls Tryd.prog 6 #[.string s, .string part] w fun e w' => e = .returned (.bool true) ∧ Below w.heap.size w w' := by
  have hLq := Lib.hid hLm
  go_enter Tryd.func6, Tryd.ntmps6
  go_wp2_with fail
  refine (S1.out _).mono ?_; rintro e w1 ⟨v1, rfl, hv1, b1⟩
  have HI := strsAt_in hv1
  obtain ⟨ad1, cap1, ev1, h11, h12, hcc, -⟩ := strsIn_cells HI
  rw [hLm] at ev1 h11
  subst ev1
  obtain ⟨g, o, rfl, hg, hcell⟩ := hcc (by omega)
  have hc1 := hcell w1 (Below.refl _ _) m (by omega)
  rw [hpm.out] at hc1
  have HV1 := Lib.hid HI
  have HB1 := Lib.hid b1
  clear hv1 HI hcc hcell b1 hLm hpm S1
  go_wp2_with fail
  refine (S5.out _).mono ?_; rintro e w2 ⟨v2, rfl, hv2, b2⟩
  have HV2 := Lib.hid (HV1.out.kept b2)
  have HB2 := Lib.hid (bnext HB1.out b2)
  obtain ⟨ad2, cap2, ev2, -⟩ := shape_of hv2
  subst ev2
  clear hv2 b2 HV1 HB1 S5
  go_wp2_with fail
  refine (S6.out _).mono ?_; rintro e w3 ⟨v3, rfl, hv3, b3⟩
  obtain ⟨ad3, cap3, ev3, -⟩ := shape_of hv3
  subst ev3
  have HV3 := Lib.hid (HV2.out.kept b3)
  have HB3 := Lib.hid (bnext HB2.out b3)
  have HR3 := Lib.hid (strsAt_in hv3)
  clear hv3 b3 HV2 HB2 S6
  have HT3 : Hid (StrsIn (.slice (some ⟨g, o, none⟩) m cap1) [] w3) := Lib.hid (by
    have := strs_take m (by have := hLq.out; omega) HV3.out
    rwa [hT.out] at this)
  go_wp2_with fail
  refine (SM5.out _ _ _ HR3.out HT3.out).mono ?_; rintro e w4 ⟨rfl, b4⟩
  have HV := Lib.hid (HV3.out.kept b4)
  have HB := Lib.hid (bnext HB3.out b4)
  clear b4 HV3 HB3 HR3 HT3 SM5 hc1
  go_wp2_with fail
  refine (C1.out _).mono ?_; rintro e w5 ⟨rfl, b5⟩
  have HV5 := Lib.hid (HV.out.kept b5)
  have HB5 := Lib.hid (bnext HB.out b5)
  clear b5 HV HB C1
  have HBz := HB5
  clear HB5 HV5
  go_wp2_with fail
  refine (AL.out _).mono ?_; rintro e wz ⟨rfl, bz⟩
  go_wp2
  go_ret
  exact ⟨rfl, bnext HBz.out bz⟩
set_option maxRecDepth 100000 in
set_option maxHeartbeats 2000000 in
theorem less_one_long (s part : ByteArray) (w : World) (hs : s.size ≤ 256) (hp : part.size ≤ 5000) (t1 : decide ((5000 : Int) < (s.size : Int)) = false) (t2 : decide ((5000 : Int) < (part.size : Int)) = false)
    (AL : Hid (∀ w, Calls Tryd.prog 14 #[] w fun e w' => e = .returned (.bool true) ∧ Below w.heap.size w w'))
    (L : List ByteArray) (m q : Nat) (p : ByteArray) (hLm : L.length = m + 1) (hm : m + 1 ≤ 16) (hpz : p.size ≤ 32) (hpm : Hid (sat L m = p)) (hq : (s.size : Int) - 1 - (p.size : Int) = (q : Int)) (hq2 : q ≤ s.size) (hs1 : 1 ≤ s.size)
    (S1 : Hid (∀ w, Calls Tryd.prog 9 #[.string s] w fun e w' => ∃ v, e = .returned (.tuple #[v, .int .i64 0]) ∧ StrsAt w.heap.size v L w' ∧ Below w.heap.size w w'))
    (tq : ((q : Int) == 0) = true) (hT : Hid (L.take m = [])) (S5 : Hid (∀ w, Calls Tryd.prog 9 #[.string (s.extract 0 q)] w fun e w' => ∃ v, e = .returned (.tuple #[v, .int .i64 130]) ∧ StrsAt w.heap.size v [] w' ∧ Below w.heap.size w w')) (S6 : Hid (∀ w, Calls Tryd.prog 9 #[.string ⟨#[47]⟩] w fun e w' => ∃ v, e = .returned (.tuple #[v, .int .i64 0]) ∧ StrsAt w.heap.size v [] w' ∧ Below w.heap.size w w')) (SM5 : Hid (∀ v u w, StrsIn v [] w → StrsIn u [] w → Calls Tryd.prog 13 #[v, u] w fun e w' => e = .returned (.bool true) ∧ Below w.heap.size w w'))
    (C1 : Hid (∀ w, Calls Tryd.prog 11 #[.string part] w fun e w' => e = .returned (.int .i64 0) ∧ Below w.heap.size w w')) (P1 P2 : ByteArray)
    (e1 : ∀ w, (Op.stringOp .add s ⟨#[47]⟩).run Tryd.prog w = .ok (.string P1) w) (e2 : ∀ w, (Op.stringOp .add P1 part).run Tryd.prog w = .ok (.string P2) w)
    (ts : (s.toList == [47]) = false)
    (t7 : decide ((256 : Int) < (P2.size : Int)) = true) (S7 : Hid (∀ w, Calls Tryd.prog 9 #[.string P2] w fun e w' => ∃ v, e = .returned (.tuple #[v, .int .i64 3]) ∧ StrsAt w.heap.size v [] w' ∧ Below w.heap.size w w')) :
    Calls Tryd.prog 6 #[.string s, .string part] w fun e w' => e = .returned (.bool true) ∧ Below w.heap.size w w' := by
  have hLq := Lib.hid hLm
  go_enter Tryd.func6, Tryd.ntmps6
  go_wp2_with fail
  refine (S1.out _).mono ?_; rintro e w1 ⟨v1, rfl, hv1, b1⟩
  have HI := strsAt_in hv1
  obtain ⟨ad1, cap1, ev1, h11, h12, hcc, -⟩ := strsIn_cells HI
  rw [hLm] at ev1 h11
  subst ev1
  obtain ⟨g, o, rfl, hg, hcell⟩ := hcc (by omega)
  have hc1 := hcell w1 (Below.refl _ _) m (by omega)
  rw [hpm.out] at hc1
  have HV1 := Lib.hid HI
  have HB1 := Lib.hid b1
  clear hv1 HI hcc hcell b1 hLm hpm S1
  go_wp2_with fail
  refine (S5.out _).mono ?_; rintro e w2 ⟨v2, rfl, hv2, b2⟩
  have HV2 := Lib.hid (HV1.out.kept b2)
  have HB2 := Lib.hid (bnext HB1.out b2)
  obtain ⟨ad2, cap2, ev2, -⟩ := shape_of hv2
  subst ev2
  clear hv2 b2 HV1 HB1 S5
  go_wp2_with fail
  refine (S6.out _).mono ?_; rintro e w3 ⟨v3, rfl, hv3, b3⟩
  obtain ⟨ad3, cap3, ev3, -⟩ := shape_of hv3
  subst ev3
  have HV3 := Lib.hid (HV2.out.kept b3)
  have HB3 := Lib.hid (bnext HB2.out b3)
  have HR3 := Lib.hid (strsAt_in hv3)
  clear hv3 b3 HV2 HB2 S6
  have HT3 : Hid (StrsIn (.slice (some ⟨g, o, none⟩) m cap1) [] w3) := Lib.hid (by
    have := strs_take m (by have := hLq.out; omega) HV3.out
    rwa [hT.out] at this)
  go_wp2_with fail
  refine (SM5.out _ _ _ HR3.out HT3.out).mono ?_; rintro e w4 ⟨rfl, b4⟩
  have HV := Lib.hid (HV3.out.kept b4)
  have HB := Lib.hid (bnext HB3.out b4)
  clear b4 HV3 HB3 HR3 HT3 SM5 hc1
  go_wp2_with fail
  refine (C1.out _).mono ?_; rintro e w5 ⟨rfl, b5⟩
  have HV5 := Lib.hid (HV.out.kept b5)
  have HB5 := Lib.hid (bnext HB.out b5)
  clear b5 HV HB C1
  go_wp2_with fail
  refine (S7.out _).mono ?_; rintro e w6 ⟨v6, rfl, hv6, b6⟩
  obtain ⟨ad6, cap6, ev6, -⟩ := shape_of hv6
  subst ev6
  have HV6 := Lib.hid (HV5.out.kept b6)
  have HB6 := Lib.hid (bnext HB5.out b6)
  have HR6 := Lib.hid (strsAt_in hv6)
  clear b6 HV5 HB5 hv6 S7
  have HBz := HB6
  clear HB6 HV6 HR6
  go_wp2_with fail
  refine (AL.out _).mono ?_; rintro e wz ⟨rfl, bz⟩
  go_wp2
  go_ret
  exact ⟨rfl, bnext HBz.out bz⟩
set_option maxRecDepth 100000 in
set_option maxHeartbeats 2000000 in
theorem less_one_many (s part : ByteArray) (w : World) (hs : s.size ≤ 256) (hp : part.size ≤ 5000) (t1 : decide ((5000 : Int) < (s.size : Int)) = false) (t2 : decide ((5000 : Int) < (part.size : Int)) = false)
    (AL : Hid (∀ w, Calls Tryd.prog 14 #[] w fun e w' => e = .returned (.bool true) ∧ Below w.heap.size w w'))
    (L : List ByteArray) (m q : Nat) (p : ByteArray) (hLm : L.length = m + 1) (hm : m + 1 ≤ 16) (hpz : p.size ≤ 32) (hpm : Hid (sat L m = p)) (hq : (s.size : Int) - 1 - (p.size : Int) = (q : Int)) (hq2 : q ≤ s.size) (hs1 : 1 ≤ s.size)
    (S1 : Hid (∀ w, Calls Tryd.prog 9 #[.string s] w fun e w' => ∃ v, e = .returned (.tuple #[v, .int .i64 0]) ∧ StrsAt w.heap.size v L w' ∧ Below w.heap.size w w'))
    (tq : ((q : Int) == 0) = true) (hT : Hid (L.take m = [])) (S5 : Hid (∀ w, Calls Tryd.prog 9 #[.string (s.extract 0 q)] w fun e w' => ∃ v, e = .returned (.tuple #[v, .int .i64 130]) ∧ StrsAt w.heap.size v [] w' ∧ Below w.heap.size w w')) (S6 : Hid (∀ w, Calls Tryd.prog 9 #[.string ⟨#[47]⟩] w fun e w' => ∃ v, e = .returned (.tuple #[v, .int .i64 0]) ∧ StrsAt w.heap.size v [] w' ∧ Below w.heap.size w w')) (SM5 : Hid (∀ v u w, StrsIn v [] w → StrsIn u [] w → Calls Tryd.prog 13 #[v, u] w fun e w' => e = .returned (.bool true) ∧ Below w.heap.size w w'))
    (C1 : Hid (∀ w, Calls Tryd.prog 11 #[.string part] w fun e w' => e = .returned (.int .i64 0) ∧ Below w.heap.size w w')) (P1 P2 : ByteArray)
    (e1 : ∀ w, (Op.stringOp .add s ⟨#[47]⟩).run Tryd.prog w = .ok (.string P1) w) (e2 : ∀ w, (Op.stringOp .add P1 part).run Tryd.prog w = .ok (.string P2) w)
    (ts : (s.toList == [47]) = false)
    (t7 : decide ((256 : Int) < (P2.size : Int)) = false) (t8 : ((m : Int) + 1 == 16) = true) (S7 : Hid (∀ w, Calls Tryd.prog 9 #[.string P2] w fun e w' => ∃ v, e = .returned (.tuple #[v, .int .i64 3]) ∧ StrsAt w.heap.size v [] w' ∧ Below w.heap.size w w')) :
    Calls Tryd.prog 6 #[.string s, .string part] w fun e w' => e = .returned (.bool true) ∧ Below w.heap.size w w' := by
  have hLq := Lib.hid hLm
  go_enter Tryd.func6, Tryd.ntmps6
  go_wp2_with fail
  refine (S1.out _).mono ?_; rintro e w1 ⟨v1, rfl, hv1, b1⟩
  have HI := strsAt_in hv1
  obtain ⟨ad1, cap1, ev1, h11, h12, hcc, -⟩ := strsIn_cells HI
  rw [hLm] at ev1 h11
  subst ev1
  obtain ⟨g, o, rfl, hg, hcell⟩ := hcc (by omega)
  have hc1 := hcell w1 (Below.refl _ _) m (by omega)
  rw [hpm.out] at hc1
  have HV1 := Lib.hid HI
  have HB1 := Lib.hid b1
  clear hv1 HI hcc hcell b1 hLm hpm S1
  go_wp2_with fail
  refine (S5.out _).mono ?_; rintro e w2 ⟨v2, rfl, hv2, b2⟩
  have HV2 := Lib.hid (HV1.out.kept b2)
  have HB2 := Lib.hid (bnext HB1.out b2)
  obtain ⟨ad2, cap2, ev2, -⟩ := shape_of hv2
  subst ev2
  clear hv2 b2 HV1 HB1 S5
  go_wp2_with fail
  refine (S6.out _).mono ?_; rintro e w3 ⟨v3, rfl, hv3, b3⟩
  obtain ⟨ad3, cap3, ev3, -⟩ := shape_of hv3
  subst ev3
  have HV3 := Lib.hid (HV2.out.kept b3)
  have HB3 := Lib.hid (bnext HB2.out b3)
  have HR3 := Lib.hid (strsAt_in hv3)
  clear hv3 b3 HV2 HB2 S6
  have HT3 : Hid (StrsIn (.slice (some ⟨g, o, none⟩) m cap1) [] w3) := Lib.hid (by
    have := strs_take m (by have := hLq.out; omega) HV3.out
    rwa [hT.out] at this)
  go_wp2_with fail
  refine (SM5.out _ _ _ HR3.out HT3.out).mono ?_; rintro e w4 ⟨rfl, b4⟩
  have HV := Lib.hid (HV3.out.kept b4)
  have HB := Lib.hid (bnext HB3.out b4)
  clear b4 HV3 HB3 HR3 HT3 SM5 hc1
  go_wp2_with fail
  refine (C1.out _).mono ?_; rintro e w5 ⟨rfl, b5⟩
  have HV5 := Lib.hid (HV.out.kept b5)
  have HB5 := Lib.hid (bnext HB.out b5)
  clear b5 HV HB C1
  go_wp2_with fail
  refine (S7.out _).mono ?_; rintro e w6 ⟨v6, rfl, hv6, b6⟩
  obtain ⟨ad6, cap6, ev6, -⟩ := shape_of hv6
  subst ev6
  have HV6 := Lib.hid (HV5.out.kept b6)
  have HB6 := Lib.hid (bnext HB5.out b6)
  have HR6 := Lib.hid (strsAt_in hv6)
  clear b6 HV5 HB5 hv6 S7
  have HBz := HB6
  clear HB6 HV6 HR6
  go_wp2_with fail
  refine (AL.out _).mono ?_; rintro e wz ⟨rfl, bz⟩
  go_wp2
  go_ret
  exact ⟨rfl, bnext HBz.out bz⟩
set_option maxRecDepth 100000 in
set_option maxHeartbeats 2000000 in
theorem less_one_fits (s part : ByteArray) (w : World) (hs : s.size ≤ 256) (hp : part.size ≤ 5000) (t1 : decide ((5000 : Int) < (s.size : Int)) = false) (t2 : decide ((5000 : Int) < (part.size : Int)) = false)
    (AL : Hid (∀ w, Calls Tryd.prog 14 #[] w fun e w' => e = .returned (.bool true) ∧ Below w.heap.size w w'))
    (L : List ByteArray) (m q : Nat) (p : ByteArray) (hLm : L.length = m + 1) (hm : m + 1 ≤ 16) (hpz : p.size ≤ 32) (hpm : Hid (sat L m = p)) (hq : (s.size : Int) - 1 - (p.size : Int) = (q : Int)) (hq2 : q ≤ s.size) (hs1 : 1 ≤ s.size)
    (S1 : Hid (∀ w, Calls Tryd.prog 9 #[.string s] w fun e w' => ∃ v, e = .returned (.tuple #[v, .int .i64 0]) ∧ StrsAt w.heap.size v L w' ∧ Below w.heap.size w w'))
    (tq : ((q : Int) == 0) = true) (hT : Hid (L.take m = [])) (S5 : Hid (∀ w, Calls Tryd.prog 9 #[.string (s.extract 0 q)] w fun e w' => ∃ v, e = .returned (.tuple #[v, .int .i64 130]) ∧ StrsAt w.heap.size v [] w' ∧ Below w.heap.size w w')) (S6 : Hid (∀ w, Calls Tryd.prog 9 #[.string ⟨#[47]⟩] w fun e w' => ∃ v, e = .returned (.tuple #[v, .int .i64 0]) ∧ StrsAt w.heap.size v [] w' ∧ Below w.heap.size w w')) (SM5 : Hid (∀ v u w, StrsIn v [] w → StrsIn u [] w → Calls Tryd.prog 13 #[v, u] w fun e w' => e = .returned (.bool true) ∧ Below w.heap.size w w'))
    (C1 : Hid (∀ w, Calls Tryd.prog 11 #[.string part] w fun e w' => e = .returned (.int .i64 0) ∧ Below w.heap.size w w')) (P1 P2 : ByteArray)
    (e1 : ∀ w, (Op.stringOp .add s ⟨#[47]⟩).run Tryd.prog w = .ok (.string P1) w) (e2 : ∀ w, (Op.stringOp .add P1 part).run Tryd.prog w = .ok (.string P2) w)
    (ts : (s.toList == [47]) = false)
    (t7 : decide ((256 : Int) < (P2.size : Int)) = false) (t8 : ((m : Int) + 1 == 16) = false) (S7 : Hid (∀ w, Calls Tryd.prog 9 #[.string P2] w fun e w' => ∃ v, e = .returned (.tuple #[v, .int .i64 0]) ∧ StrsAt w.heap.size v (L ++ [part]) w' ∧ Below w.heap.size w w')) (SM7 : Hid (∀ v u w, StrsIn v (L ++ [part]) w → StrsIn u (L ++ [part]) w → Calls Tryd.prog 13 #[v, u] w fun e w' => e = .returned (.bool true) ∧ Below w.heap.size w w')) :
    Calls Tryd.prog 6 #[.string s, .string part] w fun e w' => e = .returned (.bool true) ∧ Below w.heap.size w w' := by
  have hLq := Lib.hid hLm
  go_enter Tryd.func6, Tryd.ntmps6
  go_wp2_with fail
  refine (S1.out _).mono ?_; rintro e w1 ⟨v1, rfl, hv1, b1⟩
  have HI := strsAt_in hv1
  obtain ⟨ad1, cap1, ev1, h11, h12, hcc, -⟩ := strsIn_cells HI
  rw [hLm] at ev1 h11
  subst ev1
  obtain ⟨g, o, rfl, hg, hcell⟩ := hcc (by omega)
  have hc1 := hcell w1 (Below.refl _ _) m (by omega)
  rw [hpm.out] at hc1
  have HV1 := Lib.hid HI
  have HB1 := Lib.hid b1
  clear hv1 HI hcc hcell b1 hLm hpm S1
  go_wp2_with fail
  refine (S5.out _).mono ?_; rintro e w2 ⟨v2, rfl, hv2, b2⟩
  have HV2 := Lib.hid (HV1.out.kept b2)
  have HB2 := Lib.hid (bnext HB1.out b2)
  obtain ⟨ad2, cap2, ev2, -⟩ := shape_of hv2
  subst ev2
  clear hv2 b2 HV1 HB1 S5
  go_wp2_with fail
  refine (S6.out _).mono ?_; rintro e w3 ⟨v3, rfl, hv3, b3⟩
  obtain ⟨ad3, cap3, ev3, -⟩ := shape_of hv3
  subst ev3
  have HV3 := Lib.hid (HV2.out.kept b3)
  have HB3 := Lib.hid (bnext HB2.out b3)
  have HR3 := Lib.hid (strsAt_in hv3)
  clear hv3 b3 HV2 HB2 S6
  have HT3 : Hid (StrsIn (.slice (some ⟨g, o, none⟩) m cap1) [] w3) := Lib.hid (by
    have := strs_take m (by have := hLq.out; omega) HV3.out
    rwa [hT.out] at this)
  go_wp2_with fail
  refine (SM5.out _ _ _ HR3.out HT3.out).mono ?_; rintro e w4 ⟨rfl, b4⟩
  have HV := Lib.hid (HV3.out.kept b4)
  have HB := Lib.hid (bnext HB3.out b4)
  clear b4 HV3 HB3 HR3 HT3 SM5 hc1
  go_wp2_with fail
  refine (C1.out _).mono ?_; rintro e w5 ⟨rfl, b5⟩
  have HV5 := Lib.hid (HV.out.kept b5)
  have HB5 := Lib.hid (bnext HB.out b5)
  clear b5 HV HB C1
  go_wp2_with fail
  refine (S7.out _).mono ?_; rintro e w6 ⟨v6, rfl, hv6, b6⟩
  obtain ⟨ad6, cap6, ev6, -⟩ := shape_of hv6
  rw [List.length_append, List.length_singleton] at ev6
  rw [hLq.out] at ev6
  subst ev6
  have HV6 := Lib.hid (HV5.out.kept b6)
  have HB6 := Lib.hid (bnext HB5.out b6)
  have HR6 := Lib.hid (strsAt_in hv6)
  clear b6 HV5 HB5 hv6 S7
  go_wp2_with (at_builtin; refine wpList_appTMg ?hgd (.tmp 110) (.tmp 111) ?ho w6.heap.size (.slice (some ⟨w6.heap.size, 0, none⟩) 0 0) [] ?hs ?hown (.slice (some ⟨g, o, none⟩) (m + 1) cap1) L ?hx ?hu ?hl ?hbb ?hh)
  case ho => rfl
  case hs => rfl
  case hx => rfl
  case hown => exact strsAt_new w6 [] (by simp)
  case hu => exact HV6.out.kept (balloc1 w6 _)
  case hl => (have := hLq.out; simp; omega)
  case hbb => (rw [size_alloc]; omega)
  intro v7 w7 hv7 b7
  have hv7 : StrsAt w6.heap.size v7 L w7 := hv7
  obtain ⟨ad7, cap7, ev7, -⟩ := shape_of hv7
  rw [hLq.out] at ev7
  subst ev7
  have c7 := (balloc1 w6 (.cells #[] 9)).trans b7
  have HC7 := Lib.hid c7
  have hz7 := c7.size
  have HV7 := Lib.hid (World.ownsRow.alloc hv7 (.cells #[.string part] 9))
  have HP7 := Lib.hid (lit_inT w7 [part] #[.string part] (by simp) rfl)
  clear b7 c7 hv7 HV6
  go_wp2_with (at_builtin; refine wpList_appTMg ?hgd2 (.tmp 112) (.tmp 114) ?ho2 w6.heap.size (.slice ad7 (m + 1) cap7) L ?hs2 ?hown2 (.slice (some ⟨w7.heap.size, 0, none⟩) 1 1) [part] ?hx2 ?hu2 ?hl2 ?hbb2 ?hh2)
  case ho2 => rfl
  case hs2 => rfl
  case hx2 => rfl
  case hown2 => exact HV7.out
  case hu2 => exact HP7.out
  case hl2 => (simp; have := hLq.out; omega)
  case hbb2 => (rw [size_alloc]; omega)
  intro v8 w8 hv8 b8
  have c8 := (balloc HC7.out _).trans b8
  have HR8 := Lib.hid (HR6.out.kept c8)
  have HB8 := Lib.hid (bnext HB6.out c8)
  obtain ⟨ad8, cap8, ev8, -⟩ := shape_of hv8
  rw [List.length_append, List.length_singleton, hLq.out] at ev8
  subst ev8
  have HS8 := Lib.hid (strsAt_in hv8)
  clear b8 c8 hv8 HR6 HB6 HC7 HV7 HP7
  go_wp2_with fail
  refine (SM7.out _ _ _ HR8.out HS8.out).mono ?_; rintro e w9 ⟨rfl, b9⟩
  have HBz := Lib.hid (bnext HB8.out b9)
  clear b9 HB8 HR8 HS8 SM7
  go_wp2_with fail
  refine (AL.out _).mono ?_; rintro e wz ⟨rfl, bz⟩
  go_wp2
  go_ret
  exact ⟨rfl, bnext HBz.out bz⟩
set_option maxRecDepth 100000 in
set_option maxHeartbeats 2000000 in
theorem less_many_bad (s part : ByteArray) (w : World) (hs : s.size ≤ 256) (hp : part.size ≤ 5000) (t1 : decide ((5000 : Int) < (s.size : Int)) = false) (t2 : decide ((5000 : Int) < (part.size : Int)) = false)
    (AL : Hid (∀ w, Calls Tryd.prog 14 #[] w fun e w' => e = .returned (.bool true) ∧ Below w.heap.size w w'))
    (L : List ByteArray) (m q : Nat) (p : ByteArray) (hLm : L.length = m + 1) (hm : m + 1 ≤ 16) (hpz : p.size ≤ 32) (hpm : Hid (sat L m = p)) (hq : (s.size : Int) - 1 - (p.size : Int) = (q : Int)) (hq2 : q ≤ s.size) (hs1 : 1 ≤ s.size)
    (S1 : Hid (∀ w, Calls Tryd.prog 9 #[.string s] w fun e w' => ∃ v, e = .returned (.tuple #[v, .int .i64 0]) ∧ StrsAt w.heap.size v L w' ∧ Below w.heap.size w w'))
    (M : List ByteArray) (tq : ((q : Int) == 0) = false) (hT : Hid (L.take m = M)) (hM : M.length = m) (S5 : Hid (∀ w, Calls Tryd.prog 9 #[.string (s.extract 0 q)] w fun e w' => ∃ v, e = .returned (.tuple #[v, .int .i64 0]) ∧ StrsAt w.heap.size v M w' ∧ Below w.heap.size w w')) (SM5 : Hid (∀ v u w, StrsIn v M w → StrsIn u M w → Calls Tryd.prog 13 #[v, u] w fun e w' => e = .returned (.bool true) ∧ Below w.heap.size w w'))
    (F : Int) (tF : (F != 0) = true) (C1 : Hid (∀ w, Calls Tryd.prog 11 #[.string part] w fun e w' => e = .returned (.int .i64 F) ∧ Below w.heap.size w w')) :
    Calls Tryd.prog 6 #[.string s, .string part] w fun e w' => e = .returned (.bool true) ∧ Below w.heap.size w w' := by
  have hLq := Lib.hid hLm
  go_enter Tryd.func6, Tryd.ntmps6
  go_wp2_with fail
  refine (S1.out _).mono ?_; rintro e w1 ⟨v1, rfl, hv1, b1⟩
  have HI := strsAt_in hv1
  obtain ⟨ad1, cap1, ev1, h11, h12, hcc, -⟩ := strsIn_cells HI
  rw [hLm] at ev1 h11
  subst ev1
  obtain ⟨g, o, rfl, hg, hcell⟩ := hcc (by omega)
  have hc1 := hcell w1 (Below.refl _ _) m (by omega)
  rw [hpm.out] at hc1
  have HV1 := Lib.hid HI
  have HB1 := Lib.hid b1
  clear hv1 HI hcc hcell b1 hLm hpm S1
  go_wp2_with fail
  refine (S5.out _).mono ?_; rintro e w2 ⟨v2, rfl, hv2, b2⟩
  have HV2 := Lib.hid (HV1.out.kept b2)
  have HB2 := Lib.hid (bnext HB1.out b2)
  obtain ⟨ad3, cap3, ev3, -⟩ := shape_of hv2
  rw [hM] at ev3
  subst ev3
  have HV3 := HV2
  have HB3 := HB2
  have HR3 := Lib.hid (strsAt_in hv2)
  clear hv2 b2 HV1 HB1 S5 HV2 HB2 hM
  have HT3 : Hid (StrsIn (.slice (some ⟨g, o, none⟩) m cap1) M w2) := Lib.hid (by
    have := strs_take m (by have := hLq.out; omega) HV3.out
    rwa [hT.out] at this)
  go_wp2_with fail
  refine (SM5.out _ _ _ HR3.out HT3.out).mono ?_; rintro e w4 ⟨rfl, b4⟩
  have HV := Lib.hid (HV3.out.kept b4)
  have HB := Lib.hid (bnext HB3.out b4)
  clear b4 HV3 HB3 HR3 HT3 SM5 hc1
  go_wp2_with fail
  refine (C1.out _).mono ?_; rintro e w5 ⟨rfl, b5⟩
  have HV5 := Lib.hid (HV.out.kept b5)
  have HB5 := Lib.hid (bnext HB.out b5)
  clear b5 HV HB C1
  have HBz := HB5
  clear HB5 HV5
  go_wp2_with fail
  refine (AL.out _).mono ?_; rintro e wz ⟨rfl, bz⟩
  go_wp2
  go_ret
  exact ⟨rfl, bnext HBz.out bz⟩
set_option maxRecDepth 100000 in
set_option maxHeartbeats 2000000 in
theorem less_many_long (s part : ByteArray) (w : World) (hs : s.size ≤ 256) (hp : part.size ≤ 5000) (t1 : decide ((5000 : Int) < (s.size : Int)) = false) (t2 : decide ((5000 : Int) < (part.size : Int)) = false)
    (AL : Hid (∀ w, Calls Tryd.prog 14 #[] w fun e w' => e = .returned (.bool true) ∧ Below w.heap.size w w'))
    (L : List ByteArray) (m q : Nat) (p : ByteArray) (hLm : L.length = m + 1) (hm : m + 1 ≤ 16) (hpz : p.size ≤ 32) (hpm : Hid (sat L m = p)) (hq : (s.size : Int) - 1 - (p.size : Int) = (q : Int)) (hq2 : q ≤ s.size) (hs1 : 1 ≤ s.size)
    (S1 : Hid (∀ w, Calls Tryd.prog 9 #[.string s] w fun e w' => ∃ v, e = .returned (.tuple #[v, .int .i64 0]) ∧ StrsAt w.heap.size v L w' ∧ Below w.heap.size w w'))
    (M : List ByteArray) (tq : ((q : Int) == 0) = false) (hT : Hid (L.take m = M)) (hM : M.length = m) (S5 : Hid (∀ w, Calls Tryd.prog 9 #[.string (s.extract 0 q)] w fun e w' => ∃ v, e = .returned (.tuple #[v, .int .i64 0]) ∧ StrsAt w.heap.size v M w' ∧ Below w.heap.size w w')) (SM5 : Hid (∀ v u w, StrsIn v M w → StrsIn u M w → Calls Tryd.prog 13 #[v, u] w fun e w' => e = .returned (.bool true) ∧ Below w.heap.size w w'))
    (C1 : Hid (∀ w, Calls Tryd.prog 11 #[.string part] w fun e w' => e = .returned (.int .i64 0) ∧ Below w.heap.size w w')) (P1 P2 : ByteArray)
    (e1 : ∀ w, (Op.stringOp .add s ⟨#[47]⟩).run Tryd.prog w = .ok (.string P1) w) (e2 : ∀ w, (Op.stringOp .add P1 part).run Tryd.prog w = .ok (.string P2) w)
    (ts : (s.toList == [47]) = false)
    (t7 : decide ((256 : Int) < (P2.size : Int)) = true) (S7 : Hid (∀ w, Calls Tryd.prog 9 #[.string P2] w fun e w' => ∃ v, e = .returned (.tuple #[v, .int .i64 3]) ∧ StrsAt w.heap.size v [] w' ∧ Below w.heap.size w w')) :
    Calls Tryd.prog 6 #[.string s, .string part] w fun e w' => e = .returned (.bool true) ∧ Below w.heap.size w w' := by
  have hLq := Lib.hid hLm
  go_enter Tryd.func6, Tryd.ntmps6
  go_wp2_with fail
  refine (S1.out _).mono ?_; rintro e w1 ⟨v1, rfl, hv1, b1⟩
  have HI := strsAt_in hv1
  obtain ⟨ad1, cap1, ev1, h11, h12, hcc, -⟩ := strsIn_cells HI
  rw [hLm] at ev1 h11
  subst ev1
  obtain ⟨g, o, rfl, hg, hcell⟩ := hcc (by omega)
  have hc1 := hcell w1 (Below.refl _ _) m (by omega)
  rw [hpm.out] at hc1
  have HV1 := Lib.hid HI
  have HB1 := Lib.hid b1
  clear hv1 HI hcc hcell b1 hLm hpm S1
  go_wp2_with fail
  refine (S5.out _).mono ?_; rintro e w2 ⟨v2, rfl, hv2, b2⟩
  have HV2 := Lib.hid (HV1.out.kept b2)
  have HB2 := Lib.hid (bnext HB1.out b2)
  obtain ⟨ad3, cap3, ev3, -⟩ := shape_of hv2
  rw [hM] at ev3
  subst ev3
  have HV3 := HV2
  have HB3 := HB2
  have HR3 := Lib.hid (strsAt_in hv2)
  clear hv2 b2 HV1 HB1 S5 HV2 HB2 hM
  have HT3 : Hid (StrsIn (.slice (some ⟨g, o, none⟩) m cap1) M w2) := Lib.hid (by
    have := strs_take m (by have := hLq.out; omega) HV3.out
    rwa [hT.out] at this)
  go_wp2_with fail
  refine (SM5.out _ _ _ HR3.out HT3.out).mono ?_; rintro e w4 ⟨rfl, b4⟩
  have HV := Lib.hid (HV3.out.kept b4)
  have HB := Lib.hid (bnext HB3.out b4)
  clear b4 HV3 HB3 HR3 HT3 SM5 hc1
  go_wp2_with fail
  refine (C1.out _).mono ?_; rintro e w5 ⟨rfl, b5⟩
  have HV5 := Lib.hid (HV.out.kept b5)
  have HB5 := Lib.hid (bnext HB.out b5)
  clear b5 HV HB C1
  go_wp2_with fail
  refine (S7.out _).mono ?_; rintro e w6 ⟨v6, rfl, hv6, b6⟩
  obtain ⟨ad6, cap6, ev6, -⟩ := shape_of hv6
  subst ev6
  have HV6 := Lib.hid (HV5.out.kept b6)
  have HB6 := Lib.hid (bnext HB5.out b6)
  have HR6 := Lib.hid (strsAt_in hv6)
  clear b6 HV5 HB5 hv6 S7
  have HBz := HB6
  clear HB6 HV6 HR6
  go_wp2_with fail
  refine (AL.out _).mono ?_; rintro e wz ⟨rfl, bz⟩
  go_wp2
  go_ret
  exact ⟨rfl, bnext HBz.out bz⟩
set_option maxRecDepth 100000 in
set_option maxHeartbeats 2000000 in
theorem less_many_many (s part : ByteArray) (w : World) (hs : s.size ≤ 256) (hp : part.size ≤ 5000) (t1 : decide ((5000 : Int) < (s.size : Int)) = false) (t2 : decide ((5000 : Int) < (part.size : Int)) = false)
    (AL : Hid (∀ w, Calls Tryd.prog 14 #[] w fun e w' => e = .returned (.bool true) ∧ Below w.heap.size w w'))
    (L : List ByteArray) (m q : Nat) (p : ByteArray) (hLm : L.length = m + 1) (hm : m + 1 ≤ 16) (hpz : p.size ≤ 32) (hpm : Hid (sat L m = p)) (hq : (s.size : Int) - 1 - (p.size : Int) = (q : Int)) (hq2 : q ≤ s.size) (hs1 : 1 ≤ s.size)
    (S1 : Hid (∀ w, Calls Tryd.prog 9 #[.string s] w fun e w' => ∃ v, e = .returned (.tuple #[v, .int .i64 0]) ∧ StrsAt w.heap.size v L w' ∧ Below w.heap.size w w'))
    (M : List ByteArray) (tq : ((q : Int) == 0) = false) (hT : Hid (L.take m = M)) (hM : M.length = m) (S5 : Hid (∀ w, Calls Tryd.prog 9 #[.string (s.extract 0 q)] w fun e w' => ∃ v, e = .returned (.tuple #[v, .int .i64 0]) ∧ StrsAt w.heap.size v M w' ∧ Below w.heap.size w w')) (SM5 : Hid (∀ v u w, StrsIn v M w → StrsIn u M w → Calls Tryd.prog 13 #[v, u] w fun e w' => e = .returned (.bool true) ∧ Below w.heap.size w w'))
    (C1 : Hid (∀ w, Calls Tryd.prog 11 #[.string part] w fun e w' => e = .returned (.int .i64 0) ∧ Below w.heap.size w w')) (P1 P2 : ByteArray)
    (e1 : ∀ w, (Op.stringOp .add s ⟨#[47]⟩).run Tryd.prog w = .ok (.string P1) w) (e2 : ∀ w, (Op.stringOp .add P1 part).run Tryd.prog w = .ok (.string P2) w)
    (ts : (s.toList == [47]) = false)
    (t7 : decide ((256 : Int) < (P2.size : Int)) = false) (t8 : ((m : Int) + 1 == 16) = true) (S7 : Hid (∀ w, Calls Tryd.prog 9 #[.string P2] w fun e w' => ∃ v, e = .returned (.tuple #[v, .int .i64 3]) ∧ StrsAt w.heap.size v [] w' ∧ Below w.heap.size w w')) :
    Calls Tryd.prog 6 #[.string s, .string part] w fun e w' => e = .returned (.bool true) ∧ Below w.heap.size w w' := by
  have hLq := Lib.hid hLm
  go_enter Tryd.func6, Tryd.ntmps6
  go_wp2_with fail
  refine (S1.out _).mono ?_; rintro e w1 ⟨v1, rfl, hv1, b1⟩
  have HI := strsAt_in hv1
  obtain ⟨ad1, cap1, ev1, h11, h12, hcc, -⟩ := strsIn_cells HI
  rw [hLm] at ev1 h11
  subst ev1
  obtain ⟨g, o, rfl, hg, hcell⟩ := hcc (by omega)
  have hc1 := hcell w1 (Below.refl _ _) m (by omega)
  rw [hpm.out] at hc1
  have HV1 := Lib.hid HI
  have HB1 := Lib.hid b1
  clear hv1 HI hcc hcell b1 hLm hpm S1
  go_wp2_with fail
  refine (S5.out _).mono ?_; rintro e w2 ⟨v2, rfl, hv2, b2⟩
  have HV2 := Lib.hid (HV1.out.kept b2)
  have HB2 := Lib.hid (bnext HB1.out b2)
  obtain ⟨ad3, cap3, ev3, -⟩ := shape_of hv2
  rw [hM] at ev3
  subst ev3
  have HV3 := HV2
  have HB3 := HB2
  have HR3 := Lib.hid (strsAt_in hv2)
  clear hv2 b2 HV1 HB1 S5 HV2 HB2 hM
  have HT3 : Hid (StrsIn (.slice (some ⟨g, o, none⟩) m cap1) M w2) := Lib.hid (by
    have := strs_take m (by have := hLq.out; omega) HV3.out
    rwa [hT.out] at this)
  go_wp2_with fail
  refine (SM5.out _ _ _ HR3.out HT3.out).mono ?_; rintro e w4 ⟨rfl, b4⟩
  have HV := Lib.hid (HV3.out.kept b4)
  have HB := Lib.hid (bnext HB3.out b4)
  clear b4 HV3 HB3 HR3 HT3 SM5 hc1
  go_wp2_with fail
  refine (C1.out _).mono ?_; rintro e w5 ⟨rfl, b5⟩
  have HV5 := Lib.hid (HV.out.kept b5)
  have HB5 := Lib.hid (bnext HB.out b5)
  clear b5 HV HB C1
  go_wp2_with fail
  refine (S7.out _).mono ?_; rintro e w6 ⟨v6, rfl, hv6, b6⟩
  obtain ⟨ad6, cap6, ev6, -⟩ := shape_of hv6
  subst ev6
  have HV6 := Lib.hid (HV5.out.kept b6)
  have HB6 := Lib.hid (bnext HB5.out b6)
  have HR6 := Lib.hid (strsAt_in hv6)
  clear b6 HV5 HB5 hv6 S7
  have HBz := HB6
  clear HB6 HV6 HR6
  go_wp2_with fail
  refine (AL.out _).mono ?_; rintro e wz ⟨rfl, bz⟩
  go_wp2
  go_ret
  exact ⟨rfl, bnext HBz.out bz⟩
set_option maxRecDepth 100000 in
set_option maxHeartbeats 2000000 in
theorem less_many_fits (s part : ByteArray) (w : World) (hs : s.size ≤ 256) (hp : part.size ≤ 5000) (t1 : decide ((5000 : Int) < (s.size : Int)) = false) (t2 : decide ((5000 : Int) < (part.size : Int)) = false)
    (AL : Hid (∀ w, Calls Tryd.prog 14 #[] w fun e w' => e = .returned (.bool true) ∧ Below w.heap.size w w'))
    (L : List ByteArray) (m q : Nat) (p : ByteArray) (hLm : L.length = m + 1) (hm : m + 1 ≤ 16) (hpz : p.size ≤ 32) (hpm : Hid (sat L m = p)) (hq : (s.size : Int) - 1 - (p.size : Int) = (q : Int)) (hq2 : q ≤ s.size) (hs1 : 1 ≤ s.size)
    (S1 : Hid (∀ w, Calls Tryd.prog 9 #[.string s] w fun e w' => ∃ v, e = .returned (.tuple #[v, .int .i64 0]) ∧ StrsAt w.heap.size v L w' ∧ Below w.heap.size w w'))
    (M : List ByteArray) (tq : ((q : Int) == 0) = false) (hT : Hid (L.take m = M)) (hM : M.length = m) (S5 : Hid (∀ w, Calls Tryd.prog 9 #[.string (s.extract 0 q)] w fun e w' => ∃ v, e = .returned (.tuple #[v, .int .i64 0]) ∧ StrsAt w.heap.size v M w' ∧ Below w.heap.size w w')) (SM5 : Hid (∀ v u w, StrsIn v M w → StrsIn u M w → Calls Tryd.prog 13 #[v, u] w fun e w' => e = .returned (.bool true) ∧ Below w.heap.size w w'))
    (C1 : Hid (∀ w, Calls Tryd.prog 11 #[.string part] w fun e w' => e = .returned (.int .i64 0) ∧ Below w.heap.size w w')) (P1 P2 : ByteArray)
    (e1 : ∀ w, (Op.stringOp .add s ⟨#[47]⟩).run Tryd.prog w = .ok (.string P1) w) (e2 : ∀ w, (Op.stringOp .add P1 part).run Tryd.prog w = .ok (.string P2) w)
    (ts : (s.toList == [47]) = false)
    (t7 : decide ((256 : Int) < (P2.size : Int)) = false) (t8 : ((m : Int) + 1 == 16) = false) (S7 : Hid (∀ w, Calls Tryd.prog 9 #[.string P2] w fun e w' => ∃ v, e = .returned (.tuple #[v, .int .i64 0]) ∧ StrsAt w.heap.size v (L ++ [part]) w' ∧ Below w.heap.size w w')) (SM7 : Hid (∀ v u w, StrsIn v (L ++ [part]) w → StrsIn u (L ++ [part]) w → Calls Tryd.prog 13 #[v, u] w fun e w' => e = .returned (.bool true) ∧ Below w.heap.size w w')) :
    Calls Tryd.prog 6 #[.string s, .string part] w fun e w' => e = .returned (.bool true) ∧ Below w.heap.size w w' := by
  have hLq := Lib.hid hLm
  go_enter Tryd.func6, Tryd.ntmps6
  go_wp2_with fail
  refine (S1.out _).mono ?_; rintro e w1 ⟨v1, rfl, hv1, b1⟩
  have HI := strsAt_in hv1
  obtain ⟨ad1, cap1, ev1, h11, h12, hcc, -⟩ := strsIn_cells HI
  rw [hLm] at ev1 h11
  subst ev1
  obtain ⟨g, o, rfl, hg, hcell⟩ := hcc (by omega)
  have hc1 := hcell w1 (Below.refl _ _) m (by omega)
  rw [hpm.out] at hc1
  have HV1 := Lib.hid HI
  have HB1 := Lib.hid b1
  clear hv1 HI hcc hcell b1 hLm hpm S1
  go_wp2_with fail
  refine (S5.out _).mono ?_; rintro e w2 ⟨v2, rfl, hv2, b2⟩
  have HV2 := Lib.hid (HV1.out.kept b2)
  have HB2 := Lib.hid (bnext HB1.out b2)
  obtain ⟨ad3, cap3, ev3, -⟩ := shape_of hv2
  rw [hM] at ev3
  subst ev3
  have HV3 := HV2
  have HB3 := HB2
  have HR3 := Lib.hid (strsAt_in hv2)
  clear hv2 b2 HV1 HB1 S5 HV2 HB2 hM
  have HT3 : Hid (StrsIn (.slice (some ⟨g, o, none⟩) m cap1) M w2) := Lib.hid (by
    have := strs_take m (by have := hLq.out; omega) HV3.out
    rwa [hT.out] at this)
  go_wp2_with fail
  refine (SM5.out _ _ _ HR3.out HT3.out).mono ?_; rintro e w4 ⟨rfl, b4⟩
  have HV := Lib.hid (HV3.out.kept b4)
  have HB := Lib.hid (bnext HB3.out b4)
  clear b4 HV3 HB3 HR3 HT3 SM5 hc1
  go_wp2_with fail
  refine (C1.out _).mono ?_; rintro e w5 ⟨rfl, b5⟩
  have HV5 := Lib.hid (HV.out.kept b5)
  have HB5 := Lib.hid (bnext HB.out b5)
  clear b5 HV HB C1
  go_wp2_with fail
  refine (S7.out _).mono ?_; rintro e w6 ⟨v6, rfl, hv6, b6⟩
  obtain ⟨ad6, cap6, ev6, -⟩ := shape_of hv6
  rw [List.length_append, List.length_singleton] at ev6
  rw [hLq.out] at ev6
  subst ev6
  have HV6 := Lib.hid (HV5.out.kept b6)
  have HB6 := Lib.hid (bnext HB5.out b6)
  have HR6 := Lib.hid (strsAt_in hv6)
  clear b6 HV5 HB5 hv6 S7
  go_wp2_with (at_builtin; refine wpList_appTMg ?hgd (.tmp 110) (.tmp 111) ?ho w6.heap.size (.slice (some ⟨w6.heap.size, 0, none⟩) 0 0) [] ?hs ?hown (.slice (some ⟨g, o, none⟩) (m + 1) cap1) L ?hx ?hu ?hl ?hbb ?hh)
  case ho => rfl
  case hs => rfl
  case hx => rfl
  case hown => exact strsAt_new w6 [] (by simp)
  case hu => exact HV6.out.kept (balloc1 w6 _)
  case hl => (have := hLq.out; simp; omega)
  case hbb => (rw [size_alloc]; omega)
  intro v7 w7 hv7 b7
  have hv7 : StrsAt w6.heap.size v7 L w7 := hv7
  obtain ⟨ad7, cap7, ev7, -⟩ := shape_of hv7
  rw [hLq.out] at ev7
  subst ev7
  have c7 := (balloc1 w6 (.cells #[] 9)).trans b7
  have HC7 := Lib.hid c7
  have hz7 := c7.size
  have HV7 := Lib.hid (World.ownsRow.alloc hv7 (.cells #[.string part] 9))
  have HP7 := Lib.hid (lit_inT w7 [part] #[.string part] (by simp) rfl)
  clear b7 c7 hv7 HV6
  go_wp2_with (at_builtin; refine wpList_appTMg ?hgd2 (.tmp 112) (.tmp 114) ?ho2 w6.heap.size (.slice ad7 (m + 1) cap7) L ?hs2 ?hown2 (.slice (some ⟨w7.heap.size, 0, none⟩) 1 1) [part] ?hx2 ?hu2 ?hl2 ?hbb2 ?hh2)
  case ho2 => rfl
  case hs2 => rfl
  case hx2 => rfl
  case hown2 => exact HV7.out
  case hu2 => exact HP7.out
  case hl2 => (simp; have := hLq.out; omega)
  case hbb2 => (rw [size_alloc]; omega)
  intro v8 w8 hv8 b8
  have c8 := (balloc HC7.out _).trans b8
  have HR8 := Lib.hid (HR6.out.kept c8)
  have HB8 := Lib.hid (bnext HB6.out c8)
  obtain ⟨ad8, cap8, ev8, -⟩ := shape_of hv8
  rw [List.length_append, List.length_singleton, hLq.out] at ev8
  subst ev8
  have HS8 := Lib.hid (strsAt_in hv8)
  clear b8 c8 hv8 HR6 HB6 HC7 HV7 HP7
  go_wp2_with fail
  refine (SM7.out _ _ _ HR8.out HS8.out).mono ?_; rintro e w9 ⟨rfl, b9⟩
  have HBz := Lib.hid (bnext HB8.out b9)
  clear b9 HB8 HR8 HS8 SM7
  go_wp2_with fail
  refine (AL.out _).mono ?_; rintro e wz ⟨rfl, bz⟩
  go_wp2
  go_ret
  exact ⟨rfl, bnext HBz.out bz⟩
end Go.Proofs.YtgjcdjcngepleaaDoor
