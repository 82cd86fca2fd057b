import Derived.Test.YtanghmogeiiooaaGreatDoorProg
import Derived.Shelf.SlSortCmp.NoneTotal
import Derived.Shelf.SlicesG.Cmp
import Derived.Test.YtanghmogeiiooaaGreatDoorPa17
set_option linter.unusedVariables false
set_option linter.unusedSimpArgs false
set_option linter.constructorNameAsVariable false
/- The library's contracts, laid at this program: tables of numbers, and the facts that they want. -/
namespace Go.Proofs
open Go.Shelf
def Tryz.sortChg_ren : Go.Shelf.Ren := ⟨fun | 6 => 94 | 15 => 115 | 14 => 114 | 28 => 133 | 29 => 134 | 20 => 125 | 21 => 126 | 22 => 127 | 23 => 128 | 24 => 129 | 25 => 130 | 26 => 131 | 27 => 132 | 46 => 141 | 47 => 142 | 48 => 143 | 49 => 144 | 50 => 145 | 57 => 147 | n => n, fun | 22 => 62 | 24 => 61 | 25 => 131 | 3 => 3 | 39 => 152 | 0 => 0 | 53 => 120 | 55 => 70 | 4 => 4 | 46 => 205 | 45 => 204 | 50 => 138 | 5 => 5 | 9 => 9 | 66 => 216 | 70 => 219 | 76 => 222 | 77 => 223 | n => n, fun | n => n⟩
theorem Tryz.sortChg : Go.Proofs.SlLaysF0.n6 Tryz.prog Tryz.sortChg_ren := {
  mixed := by kernel_rfl
  f6 := ⟨Tryz.f94.name, by decide, Tryz.func94.trans (congrArg some (by kernel_rfl))⟩
  f14 := ⟨Tryz.f114.name, by decide, Tryz.func114.trans (congrArg some (by kernel_rfl))⟩
  f15 := Tryz.func115.trans (congrArg some (by kernel_rfl))
  f20 := ⟨Tryz.f125.name, by decide, Tryz.func125.trans (congrArg some (by kernel_rfl))⟩
  f21 := ⟨Tryz.f126.name, by decide, Tryz.func126.trans (congrArg some (by kernel_rfl))⟩
  f22 := ⟨Tryz.f127.name, by decide, Tryz.func127.trans (congrArg some (by kernel_rfl))⟩
  f23 := ⟨Tryz.f128.name, by decide, Tryz.func128.trans (congrArg some (by kernel_rfl))⟩
  f24 := ⟨Tryz.f129.name, by decide, Tryz.func129.trans (congrArg some (by kernel_rfl))⟩
  f25 := ⟨Tryz.f130.name, by decide, Tryz.func130.trans (congrArg some (by kernel_rfl))⟩
  f26 := ⟨Tryz.f131.name, by decide, Tryz.func131.trans (congrArg some (by kernel_rfl))⟩
  f27 := ⟨Tryz.f132.name, by decide, Tryz.func132.trans (congrArg some (by kernel_rfl))⟩
  f28 := Tryz.func133.trans (congrArg some (by kernel_rfl))
  f29 := Tryz.func134.trans (congrArg some (by kernel_rfl))
  f46 := ⟨Tryz.f141.name, by decide, Tryz.func141.trans (congrArg some (by kernel_rfl))⟩
  f47 := Tryz.func142.trans (congrArg some (by kernel_rfl))
  f48 := Tryz.func143.trans (congrArg some (by kernel_rfl))
  f49 := ⟨Tryz.f144.name, by decide, Tryz.func144.trans (congrArg some (by kernel_rfl))⟩
  f50 := ⟨Tryz.f145.name, by decide, Tryz.func145.trans (congrArg some (by kernel_rfl))⟩
  f57 := ⟨Tryz.f147.name, by decide, Tryz.func147.trans (congrArg some (by kernel_rfl))⟩
  t0 := Tryz.underlying0
  a0 := Tryz.isAgg0
  z0 := Tryz.sizeOf0
  v0 := Tryz.zeroValue0
  t3 := Tryz.underlying3
  a3 := Tryz.isAgg3
  z3 := Tryz.sizeOf3
  v3 := Tryz.zeroValue3
  t4 := Tryz.underlying4
  a4 := Tryz.isAgg4
  z4 := Tryz.sizeOf4
  v4 := Tryz.zeroValue4
  t5 := Tryz.underlying5
  a5 := Tryz.isAgg5
  z5 := Tryz.sizeOf5
  v5 := Tryz.zeroValue5
  t9 := Tryz.underlying9
  a9 := Tryz.isAgg9
  z9 := Tryz.sizeOf9
  v9 := Tryz.zeroValue9
  t22 := Tryz.underlying62
  a22 := Tryz.isAgg62
  z22 := Tryz.sizeOf62
  v22 := Tryz.zeroValue62
  t25 := Tryz.underlying131
  a25 := Tryz.isAgg131
  z25 := Tryz.sizeOf131
  v25 := Tryz.zeroValue131
  t39 := Tryz.underlying152
  a39 := Tryz.isAgg152
  z39 := Tryz.sizeOf152
  v39 := Tryz.zeroValue152
  t45 := Tryz.underlying204
  a45 := Tryz.isAgg204
  z45 := Tryz.sizeOf204
  v45 := Tryz.zeroValue204
  t46 := Tryz.underlying205
  a46 := Tryz.isAgg205
  z46 := Tryz.sizeOf205
  v46 := Tryz.zeroValue205
  t50 := Tryz.underlying138
  a50 := Tryz.isAgg138
  z50 := Tryz.sizeOf138
  v50 := Tryz.zeroValue138
  t53 := Tryz.underlying120
  a53 := Tryz.isAgg120
  z53 := Tryz.sizeOf120
  v53 := Tryz.zeroValue120
  t55 := Tryz.underlying70
  a55 := Tryz.isAgg70
  z55 := Tryz.sizeOf70
  v55 := Tryz.zeroValue70
  t66 := Tryz.underlying216
  a66 := Tryz.isAgg216
  z66 := Tryz.sizeOf216
  v66 := Tryz.zeroValue216
  t70 := Tryz.underlying219
  a70 := Tryz.isAgg219
  z70 := Tryz.sizeOf219
  v70 := Tryz.zeroValue219
  t76 := Tryz.underlying222
  a76 := Tryz.isAgg222
  z76 := Tryz.sizeOf222
  v76 := Tryz.zeroValue222
  t77 := Tryz.underlying223
  a77 := Tryz.isAgg223
  z77 := Tryz.sizeOf223
  v77 := Tryz.zeroValue223 }
def Tryz.cmpInt_ren : Go.Shelf.Ren := ⟨fun | 5 => 68 | 7 => 96 | n => n, fun | 22 => 3 | 3 => 3 | 4 => 4 | n => n, fun | n => n⟩
theorem Tryz.cmpInt : Go.Proofs.SlLaysC2.n5 Tryz.prog Tryz.cmpInt_ren := {
  mixed := by kernel_rfl
  f5 := ⟨Tryz.f68.name, by decide, Tryz.func68.trans (congrArg some (by kernel_rfl))⟩
  f7 := ⟨Tryz.f96.name, by decide, Tryz.func96.trans (congrArg some (by kernel_rfl))⟩
  t3 := Tryz.underlying3
  a3 := Tryz.isAgg3
  z3 := Tryz.sizeOf3
  v3 := Tryz.zeroValue3
  t4 := Tryz.underlying4
  a4 := Tryz.isAgg4
  z4 := Tryz.sizeOf4
  v4 := Tryz.zeroValue4
  t22 := Tryz.underlying3
  a22 := Tryz.isAgg3
  z22 := Tryz.sizeOf3
  v22 := Tryz.zeroValue3 }
end Go.Proofs

/- What slices.SortFunc makes of a row of changes, by their blocks. -/
namespace Go.Proofs.YtanghmogeiiooaaGreatDoor
set_option linter.unusedVariables false
open Go.RowKit Go.Shelf

def encCh (c : Int × ByteArray) : List Value := [.int .i64 c.1, .string c.2]
theorem encCh_cells (l : List (Int × ByteArray)) (j : Nat) (h : j < l.length * 2) : (chgsL l)[j]? = some ((encCh l[j / 2]!)[j % 2]!) := by
  have hk : j / 2 < l.length := by omega
  obtain ⟨h1, h2⟩ := chgsL_at l (j / 2) hk
  rw [getElem!_pos l _ hk]
  rcases Nat.mod_two_eq_zero_or_one j with e | e
  · have : 2 * (j / 2) = j := by omega
    rw [this] at h1; rw [h1, e]; rfl
  · have : 2 * (j / 2) + 1 = j := by omega
    rw [this] at h2; rw [h2, e]; rfl
theorem holds_chgs {B g cap : Nat} {l : List (Int × ByteArray)} {w : World} (h : ChgsOwn B (.slice (some ⟨g, 0, none⟩) l.length cap) l w) : Sort.HoldsK encCh 2 w g 0 l.toArray := by
  intro j hj
  have hj : j < l.length * 2 := by simpa using hj
  rw [Nat.zero_add]
  refine ⟨?_, h.frozenAt j⟩
  rw [h.cellAt j hj, encCh_cells l j hj, Sort.get_flatK encCh 2 l.toArray j (by simpa using hj)]
  simp
theorem chgs_sorted {B g cap n : Nat} {l s : List (Int × ByteArray)} {w : World} {os : Array Obj} (hl : s.length = l.length) (h : ChgsOwn B (.slice (some ⟨g, 0, none⟩) l.length cap) l w) :
    ChgsOwn B (.slice (some ⟨g, 0, none⟩) l.length cap) s (sortWorldK encCh 2 w g 0 n s.toArray os) := by
  rcases h.2 with ⟨h0, _⟩ | ⟨g', cap', cur, hv, hb, hcur, hle, hm, hsz, htk⟩
  · cases h0
  cases hv
  have hg : g < w.heap.size := lt_of_block hcur
  have hblk : (sortWorldK encCh 2 w g 0 n s.toArray os).heap[g]? = some (.cells (Sort.putCells id 0 (Sort.flatK encCh 2 s.toArray) cur) 61 (0, 0)) := by
    unfold sortWorldK
    rw [Sort.heap_grow_old _ _ (by simp [Sort.putRowK, Sort.putRow, Sort.mapBlock, Sort.ahead]; exact hg)]
    simp [Sort.putRowK, Sort.putRow, Sort.mapBlock, Sort.ahead, Array.getElem?_modify, hcur, Sort.onCells]
  refine ⟨chgsL_length s, .inr ⟨g, cap, _, by rw [hl], hb, hblk, by rw [hl]; exact hle, hm, by simp [Sort.putCells, hsz], ?_⟩⟩
  apply List.ext_getElem?
  intro j
  by_cases hj : j < s.length * 2
  · rw [List.getElem?_take_of_lt hj, Array.getElem?_toList, encCh_cells s j hj]
    have hjc : j < cur.size := by rw [hsz]; have : l.length ≤ cap := hle; omega
    have hf := Sort.get_flatK encCh 2 s.toArray j (by simpa using hj)
    rw [getElem!_pos _ j (by simpa using hj)] at hf
    simp [Sort.putCells, hjc, hj]
    simpa using hf
  · rw [List.getElem?_take_eq_none (by omega), List.getElem?_eq_none (by rw [chgsL_length]; omega)]
theorem below_chgs {B g n : Nat} {l : List (Int × ByteArray)} {w : World} {os : Array Obj} (hg : B ≤ g) (hB : B ≤ w.heap.size) : Below B w (sortWorldK encCh 2 w g 0 n l.toArray os) := by
  have hs : (Sort.putRowK encCh 2 (Sort.ahead w n) g 0 l.toArray).heap.size = w.heap.size := by simp [Sort.putRowK, Sort.putRow, Sort.mapBlock, Sort.ahead]
  refine ⟨rfl, rfl, rfl, ?_, fun k hk => ?_⟩
  · unfold sortWorldK Sort.grow
    show _ ≤ (Array.size (_ ++ os)); rw [Array.size_append, hs]; omega
  · unfold sortWorldK
    rw [Sort.heap_grow_old _ _ (by rw [hs]; omega)]
    have : g ≠ k := by omega
    simp [Sort.putRowK, Sort.putRow, Sort.mapBlock, Sort.ahead, Array.getElem?_modify, this]
abbrev cmpCh (x y : Int × ByteArray) : Int := Lib.compareInt x.1 y.1
theorem ltBlock (x y : Int × ByteArray) : ltOf cmpCh x y = decide (x.1 < y.1) := by
  unfold ltOf cmpCh Lib.compareInt
  by_cases h1 : x.1 < y.1
  · simp [h1]
  · by_cases h2 : y.1 < x.1 <;> simp [h1, h2]
theorem swoBlock : Sort.SWO (ltOf cmpCh) where
  irrefl x := by rw [ltBlock]; simp
  trans x y z h1 h2 := by rw [ltBlock] at *; simp only [decide_eq_true_eq] at *; omega
  ntrans x y z h1 h2 := by rw [ltBlock] at *; simp only [decide_eq_false_iff_not] at *; omega
theorem jcompare_any (x y : Int) (w : World) : Calls Tryz.prog 68 #[.int .i64 x, .int .i64 y] w fun e w' => e = .returned (.int .i64 (Lib.compareInt x y)) ∧ w' = w := AnyG.cmp_Compare_int Tryz.cmpInt x y w
set_option maxHeartbeats 1000000 in
theorem byBlock_any (x y : Int × ByteArray) (W : World) : Calls Tryz.prog 67 #[.agg #[.int .i64 x.1, .string x.2], .agg #[.int .i64 y.1, .string y.2]] W fun e w' => e = .returned (.int .i64 (cmpCh x y)) ∧ ∃ q os', w' = Sort.grow (W.drewN q) os' := by
  unfold cmpCh
  have C := Lib.hid (jcompare_any x.1 y.1)
  generalize Lib.compareInt x.1 y.1 = r at *
  go_enter Tryz.func67, Tryz.ntmps67
  go_wp2_with fail
  refine (C.out _).mono ?_; rintro e w' ⟨rfl, rfl⟩
  go_wp2
  go_ret
  exact ⟨rfl, 0, _, by rw [Sort.alloc_eq_grow, Sort.alloc_eq_grow, Sort.grow_grow]; rfl⟩
theorem sortsCh_none (ad : Option Addr) (cap : Nat) (f : Value) (w : World) :
    Calls Tryz.prog 94 #[.slice ad 0 cap, f] w fun e w' => e = .returned (.tuple #[]) ∧ w' = w := AnyF.slices_SortFunc_none Tryz.sortChg ad cap f w
theorem sortsCh_some (l : List (Int × ByteArray)) (B g cap : Nat) (W : World) (hB : B ≤ g) (hg : g < W.heap.size) (hl : l.length ≤ 1000000) (h : ChgsOwn B (.slice (some ⟨g, 0, none⟩) l.length cap) l W) :
    Calls Tryz.prog 94 #[.slice (some ⟨g, 0, none⟩) l.length cap, .func (.func 67) #[] #[]] W fun e w' => e = .returned (.tuple #[]) ∧
      ∃ s : List (Int × ByteArray), s.Perm l ∧ (∀ i j, (hi : i < j) → (hj : j < s.length) → s[i].1 ≤ s[j].1) ∧ ChgsOwn B (.slice (some ⟨g, 0, none⟩) l.length cap) s w' ∧ Below B W w' := by
  have eg : ∀ args w, (callFunc 67 args).run Tryz.prog w = .ok (.enter 67 args) w := enters_of Tryz.func67 (by kernel_rfl) rfl
  have hcmp : CmpLays Tryz.prog 67 #[] encCh 2 cmpCh g 0 l.toArray.size W := fun _ _ _ _ x y => byBlock_any x y _
  have hcon := AnyQ.slices_SortFunc Tryz.sortChg 2 Tryz.isAgg61 Tryz.sizeOf61 encCh (fun _ => rfl) (fun x v hv => by simp [encCh] at hv; rcases hv with rfl | rfl <;> rfl) cmpCh swoBlock 67 #[] g 0 cap l.toArray W eg hcmp (holds_chgs h) hg (by simp; omega)
  rw [List.size_toArray] at hcon
  refine Calls.mono (show Calls Tryz.prog 94 _ _ _ from hcon) ?_
  rintro e w' ⟨he, d', n, os, hp, hs, rfl⟩
  obtain ⟨p1, p2, p3⟩ := hp
  have hlen : d'.toList.length = l.length := by simpa using p1
  have e1 : (d'.extract 0 l.length).toList = d'.toList := by
    rw [show l.length = d'.size from hlen.symm]; simp
  have e2 : ((l.toArray).extract 0 l.length).toList = l := by simp
  rw [e1, e2] at p3
  refine ⟨he, d'.toList, p3, fun i j hij hj => ?_, chgs_sorted hlen h, ?_⟩
  · have h1 := hs i j (Nat.zero_le _) hij (by omega)
    rw [ltBlock, getElem!_pos d' j (by simpa using hj), getElem!_pos d' i (by simp at hj; omega)] at h1
    simp only [decide_eq_false_iff_not] at h1
    simp only [Array.getElem_toList]; omega
  · have := below_chgs (w := W) (n := n) (os := os) (l := d'.toList) hB (by omega)
    simpa using this
end Go.Proofs.YtanghmogeiiooaaGreatDoor
