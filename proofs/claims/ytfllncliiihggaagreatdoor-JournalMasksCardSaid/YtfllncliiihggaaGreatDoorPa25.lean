import Derived.Test.YtfllncliiihggaaGreatDoorProg
import Derived.Shelf.SlSortCmp.NoneTotal
import Derived.Shelf.SlicesG.Cmp
import Derived.Test.YtfllncliiihggaaGreatDoorPa18
set_option linter.unusedVariables false
set_option linter.unusedSimpArgs false
set_option linter.constructorNameAsVariable false
/- The library's contracts, laid at this program: tables of numbers, and the facts that they want. -/
namespace Go.Proofs
open Go.Shelf
def Tryz.sortChg_ren : Go.Shelf.Ren := ⟨fun | 6 => 103 | 15 => 125 | 14 => 124 | 28 => 140 | 29 => 141 | 20 => 132 | 21 => 133 | 22 => 134 | 23 => 135 | 24 => 136 | 25 => 137 | 26 => 138 | 27 => 139 | 46 => 143 | 47 => 144 | 48 => 145 | 49 => 146 | 50 => 147 | 57 => 148 | n => n, fun | 22 => 62 | 24 => 61 | 25 => 140 | 3 => 3 | 39 => 161 | 0 => 0 | 53 => 79 | 55 => 70 | 4 => 4 | 46 => 212 | 45 => 211 | 50 => 143 | 5 => 5 | 9 => 9 | 66 => 219 | 70 => 222 | 76 => 224 | 77 => 225 | n => n, fun | n => n⟩
theorem Tryz.sortChg : Go.Proofs.SlLaysF0.n6 Tryz.prog Tryz.sortChg_ren := {
  mixed := by kernel_rfl
  f6 := ⟨Tryz.f103.name, by decide, Tryz.func103.trans (congrArg some (by kernel_rfl))⟩
  f14 := ⟨Tryz.f124.name, by decide, Tryz.func124.trans (congrArg some (by kernel_rfl))⟩
  f15 := Tryz.func125.trans (congrArg some (by kernel_rfl))
  f20 := ⟨Tryz.f132.name, by decide, Tryz.func132.trans (congrArg some (by kernel_rfl))⟩
  f21 := ⟨Tryz.f133.name, by decide, Tryz.func133.trans (congrArg some (by kernel_rfl))⟩
  f22 := ⟨Tryz.f134.name, by decide, Tryz.func134.trans (congrArg some (by kernel_rfl))⟩
  f23 := ⟨Tryz.f135.name, by decide, Tryz.func135.trans (congrArg some (by kernel_rfl))⟩
  f24 := ⟨Tryz.f136.name, by decide, Tryz.func136.trans (congrArg some (by kernel_rfl))⟩
  f25 := ⟨Tryz.f137.name, by decide, Tryz.func137.trans (congrArg some (by kernel_rfl))⟩
  f26 := ⟨Tryz.f138.name, by decide, Tryz.func138.trans (congrArg some (by kernel_rfl))⟩
  f27 := ⟨Tryz.f139.name, by decide, Tryz.func139.trans (congrArg some (by kernel_rfl))⟩
  f28 := Tryz.func140.trans (congrArg some (by kernel_rfl))
  f29 := Tryz.func141.trans (congrArg some (by kernel_rfl))
  f46 := ⟨Tryz.f143.name, by decide, Tryz.func143.trans (congrArg some (by kernel_rfl))⟩
  f47 := Tryz.func144.trans (congrArg some (by kernel_rfl))
  f48 := Tryz.func145.trans (congrArg some (by kernel_rfl))
  f49 := ⟨Tryz.f146.name, by decide, Tryz.func146.trans (congrArg some (by kernel_rfl))⟩
  f50 := ⟨Tryz.f147.name, by decide, Tryz.func147.trans (congrArg some (by kernel_rfl))⟩
  f57 := ⟨Tryz.f148.name, by decide, Tryz.func148.trans (congrArg some (by kernel_rfl))⟩
  t0 := Tryz.underlying0
  a0 := Tryz.isAgg0
  z0 := Tryz.sizeOf0
  v0 := Tryz.zeroValue0
  t3 := Tryz.underlying3
  a3 := Tryz.isAgg3
  z3 := Tryz.sizeOf3
  v3 := Tryz.zeroValue3
  t4 := Tryz.underlying4
  a4 := Tryz.isAgg4
  z4 := Tryz.sizeOf4
  v4 := Tryz.zeroValue4
  t5 := Tryz.underlying5
  a5 := Tryz.isAgg5
  z5 := Tryz.sizeOf5
  v5 := Tryz.zeroValue5
  t9 := Tryz.underlying9
  a9 := Tryz.isAgg9
  z9 := Tryz.sizeOf9
  v9 := Tryz.zeroValue9
  t22 := Tryz.underlying62
  a22 := Tryz.isAgg62
  z22 := Tryz.sizeOf62
  v22 := Tryz.zeroValue62
  t25 := Tryz.underlying140
  a25 := Tryz.isAgg140
  z25 := Tryz.sizeOf140
  v25 := Tryz.zeroValue140
  t39 := Tryz.underlying161
  a39 := Tryz.isAgg161
  z39 := Tryz.sizeOf161
  v39 := Tryz.zeroValue161
  t45 := Tryz.underlying211
  a45 := Tryz.isAgg211
  z45 := Tryz.sizeOf211
  v45 := Tryz.zeroValue211
  t46 := Tryz.underlying212
  a46 := Tryz.isAgg212
  z46 := Tryz.sizeOf212
  v46 := Tryz.zeroValue212
  t50 := Tryz.underlying143
  a50 := Tryz.isAgg143
  z50 := Tryz.sizeOf143
  v50 := Tryz.zeroValue143
  t53 := Tryz.underlying79
  a53 := Tryz.isAgg79
  z53 := Tryz.sizeOf79
  v53 := Tryz.zeroValue79
  t55 := Tryz.underlying70
  a55 := Tryz.isAgg70
  z55 := Tryz.sizeOf70
  v55 := Tryz.zeroValue70
  t66 := Tryz.underlying219
  a66 := Tryz.isAgg219
  z66 := Tryz.sizeOf219
  v66 := Tryz.zeroValue219
  t70 := Tryz.underlying222
  a70 := Tryz.isAgg222
  z70 := Tryz.sizeOf222
  v70 := Tryz.zeroValue222
  t76 := Tryz.underlying224
  a76 := Tryz.isAgg224
  z76 := Tryz.sizeOf224
  v76 := Tryz.zeroValue224
  t77 := Tryz.underlying225
  a77 := Tryz.isAgg225
  z77 := Tryz.sizeOf225
  v77 := Tryz.zeroValue225 }
def Tryz.cmpInt_ren : Go.Shelf.Ren := ⟨fun | 5 => 74 | 7 => 105 | n => n, fun | 22 => 3 | 3 => 3 | 4 => 4 | n => n, fun | n => n⟩
theorem Tryz.cmpInt : Go.Proofs.SlLaysC2.n5 Tryz.prog Tryz.cmpInt_ren := {
  mixed := by kernel_rfl
  f5 := ⟨Tryz.f74.name, by decide, Tryz.func74.trans (congrArg some (by kernel_rfl))⟩
  f7 := ⟨Tryz.f105.name, by decide, Tryz.func105.trans (congrArg some (by kernel_rfl))⟩
  t3 := Tryz.underlying3
  a3 := Tryz.isAgg3
  z3 := Tryz.sizeOf3
  v3 := Tryz.zeroValue3
  t4 := Tryz.underlying4
  a4 := Tryz.isAgg4
  z4 := Tryz.sizeOf4
  v4 := Tryz.zeroValue4
  t22 := Tryz.underlying3
  a22 := Tryz.isAgg3
  z22 := Tryz.sizeOf3
  v22 := Tryz.zeroValue3 }
end Go.Proofs

/- What slices.SortFunc makes of a row of changes, by their blocks. -/
namespace Go.Proofs.YtfllncliiihggaaGreatDoor
set_option linter.unusedVariables false
open Go.RowKit Go.Shelf

def encCh (c : Int × ByteArray) : List Value := [.int .i64 c.1, .string c.2]
theorem encCh_cells (l : List (Int × ByteArray)) (j : Nat) (h : j < l.length * 2) : (chgsL l)[j]? = some ((encCh l[j / 2]!)[j % 2]!) := by
  have hk : j / 2 < l.length := by omega
  obtain ⟨h1, h2⟩ := chgsL_at l (j / 2) hk
  rw [getElem!_pos l _ hk]
  rcases Nat.mod_two_eq_zero_or_one j with e | e
  · have : 2 * (j / 2) = j := by omega
    rw [this] at h1; rw [h1, e]; rfl
  · have : 2 * (j / 2) + 1 = j := by omega
    rw [this] at h2; rw [h2, e]; rfl
theorem holds_chgs {B g cap : Nat} {l : List (Int × ByteArray)} {w : World} (h : ChgsOwn B (.slice (some ⟨g, 0, none⟩) l.length cap) l w) : Sort.HoldsK encCh 2 w g 0 l.toArray := by
  intro j hj
  have hj : j < l.length * 2 := by simpa using hj
  rw [Nat.zero_add]
  refine ⟨?_, h.frozenAt j⟩
  rw [h.cellAt j hj, encCh_cells l j hj, Sort.get_flatK encCh 2 l.toArray j (by simpa using hj)]
  simp
theorem chgs_sorted {B g cap n : Nat} {l s : List (Int × ByteArray)} {w : World} {os : Array Obj} (hl : s.length = l.length) (h : ChgsOwn B (.slice (some ⟨g, 0, none⟩) l.length cap) l w) :
    ChgsOwn B (.slice (some ⟨g, 0, none⟩) l.length cap) s (sortWorldK encCh 2 w g 0 n s.toArray os) := by
  rcases h.2 with ⟨h0, _⟩ | ⟨g', cap', cur, hv, hb, hcur, hle, hm, hsz, htk⟩
  · cases h0
  cases hv
  have hg : g < w.heap.size := lt_of_block hcur
  have hblk : (sortWorldK encCh 2 w g 0 n s.toArray os).heap[g]? = some (.cells (Sort.putCells id 0 (Sort.flatK encCh 2 s.toArray) cur) 61 (0, 0)) := by
    unfold sortWorldK
    rw [Sort.heap_grow_old _ _ (by simp [Sort.putRowK, Sort.putRow, Sort.mapBlock, Sort.ahead]; exact hg)]
    simp [Sort.putRowK, Sort.putRow, Sort.mapBlock, Sort.ahead, Array.getElem?_modify, hcur, Sort.onCells]
  refine ⟨chgsL_length s, .inr ⟨g, cap, _, by rw [hl], hb, hblk, by rw [hl]; exact hle, hm, by simp [Sort.putCells, hsz], ?_⟩⟩
  apply List.ext_getElem?
  intro j
  by_cases hj : j < s.length * 2
  · rw [List.getElem?_take_of_lt hj, Array.getElem?_toList, encCh_cells s j hj]
    have hjc : j < cur.size := by rw [hsz]; have : l.length ≤ cap := hle; omega
    have hf := Sort.get_flatK encCh 2 s.toArray j (by simpa using hj)
    rw [getElem!_pos _ j (by simpa using hj)] at hf
    simp [Sort.putCells, hjc, hj]
    simpa using hf
  · rw [List.getElem?_take_eq_none (by omega), List.getElem?_eq_none (by rw [chgsL_length]; omega)]
theorem below_chgs {B g n : Nat} {l : List (Int × ByteArray)} {w : World} {os : Array Obj} (hg : B ≤ g) (hB : B ≤ w.heap.size) : Below B w (sortWorldK encCh 2 w g 0 n l.toArray os) := by
  have hs : (Sort.putRowK encCh 2 (Sort.ahead w n) g 0 l.toArray).heap.size = w.heap.size := by simp [Sort.putRowK, Sort.putRow, Sort.mapBlock, Sort.ahead]
  refine ⟨rfl, rfl, rfl, ?_, fun k hk => ?_⟩
  · unfold sortWorldK Sort.grow
    show _ ≤ (Array.size (_ ++ os)); rw [Array.size_append, hs]; omega
  · unfold sortWorldK
    rw [Sort.heap_grow_old _ _ (by rw [hs]; omega)]
    have : g ≠ k := by omega
    simp [Sort.putRowK, Sort.putRow, Sort.mapBlock, Sort.ahead, Array.getElem?_modify, this]
abbrev cmpCh (x y : Int × ByteArray) : Int := Lib.compareInt x.1 y.1
theorem ltBlock (x y : Int × ByteArray) : ltOf cmpCh x y = decide (x.1 < y.1) := by
  unfold ltOf cmpCh Lib.compareInt
  by_cases h1 : x.1 < y.1
  · simp [h1]
  · by_cases h2 : y.1 < x.1 <;> simp [h1, h2]
theorem swoBlock : Sort.SWO (ltOf cmpCh) where
  irrefl x := by rw [ltBlock]; simp
  trans x y z h1 h2 := by rw [ltBlock] at *; simp only [decide_eq_true_eq] at *; omega
  ntrans x y z h1 h2 := by rw [ltBlock] at *; simp only [decide_eq_false_iff_not] at *; omega
theorem jcompare_any (x y : Int) (w : World) : Calls Tryz.prog 74 #[.int .i64 x, .int .i64 y] w fun e w' => e = .returned (.int .i64 (Lib.compareInt x y)) ∧ w' = w := AnyG.cmp_Compare_int Tryz.cmpInt x y w
set_option maxHeartbeats 1000000 in
theorem byBlock_any (x y : Int × ByteArray) (W : World) : Calls Tryz.prog 73 #[.agg #[.int .i64 x.1, .string x.2], .agg #[.int .i64 y.1, .string y.2]] W fun e w' => e = .returned (.int .i64 (cmpCh x y)) ∧ ∃ q os', w' = Sort.grow (W.drewN q) os' := by
  unfold cmpCh
  have C := Lib.hid (jcompare_any x.1 y.1)
  generalize Lib.compareInt x.1 y.1 = r at *
  go_enter Tryz.func73, Tryz.ntmps73
  go_wp2_with fail
  refine (C.out _).mono ?_; rintro e w' ⟨rfl, rfl⟩
  go_wp2
  go_ret
  exact ⟨rfl, 0, _, by rw [Sort.alloc_eq_grow, Sort.alloc_eq_grow, Sort.grow_grow]; rfl⟩
theorem sortsCh_none (ad : Option Addr) (cap : Nat) (f : Value) (w : World) :
    Calls Tryz.prog 103 #[.slice ad 0 cap, f] w fun e w' => e = .returned (.tuple #[]) ∧ w' = w := AnyF.slices_SortFunc_none Tryz.sortChg ad cap f w
theorem sortsCh_some (l : List (Int × ByteArray)) (B g cap : Nat) (W : World) (hB : B ≤ g) (hg : g < W.heap.size) (hl : l.length ≤ 1000000) (h : ChgsOwn B (.slice (some ⟨g, 0, none⟩) l.length cap) l W) :
    Calls Tryz.prog 103 #[.slice (some ⟨g, 0, none⟩) l.length cap, .func (.func 73) #[] #[]] W fun e w' => e = .returned (.tuple #[]) ∧
      ∃ s : List (Int × ByteArray), s.Perm l ∧ (∀ i j, (hi : i < j) → (hj : j < s.length) → s[i].1 ≤ s[j].1) ∧ ChgsOwn B (.slice (some ⟨g, 0, none⟩) l.length cap) s w' ∧ Below B W w' := by
  have eg : ∀ args w, (callFunc 73 args).run Tryz.prog w = .ok (.enter 73 args) w := enters_of Tryz.func73 (by kernel_rfl) rfl
  have hcmp : CmpLays Tryz.prog 73 #[] encCh 2 cmpCh g 0 l.toArray.size W := fun _ _ _ _ x y => byBlock_any x y _
  have hcon := AnyQ.slices_SortFunc Tryz.sortChg 2 Tryz.isAgg61 Tryz.sizeOf61 encCh (fun _ => rfl) (fun x v hv => by simp [encCh] at hv; rcases hv with rfl | rfl <;> rfl) cmpCh swoBlock 73 #[] g 0 cap l.toArray W eg hcmp (holds_chgs h) hg (by simp; omega)
  rw [List.size_toArray] at hcon
  refine Calls.mono (show Calls Tryz.prog 103 _ _ _ from hcon) ?_
  rintro e w' ⟨he, d', n, os, hp, hs, rfl⟩
  obtain ⟨p1, p2, p3⟩ := hp
  have hlen : d'.toList.length = l.length := by simpa using p1
  have e1 : (d'.extract 0 l.length).toList = d'.toList := by
    rw [show l.length = d'.size from hlen.symm]; simp
  have e2 : ((l.toArray).extract 0 l.length).toList = l := by simp
  rw [e1, e2] at p3
  refine ⟨he, d'.toList, p3, fun i j hij hj => ?_, chgs_sorted hlen h, ?_⟩
  · have h1 := hs i j (Nat.zero_le _) hij (by omega)
    rw [ltBlock, getElem!_pos d' j (by simpa using hj), getElem!_pos d' i (by simp at hj; omega)] at h1
    simp only [decide_eq_false_iff_not] at h1
    simp only [Array.getElem_toList]; omega
  · have := below_chgs (w := W) (n := n) (os := os) (l := d'.toList) hB (by omega)
    simpa using this
end Go.Proofs.YtfllncliiihggaaGreatDoor
