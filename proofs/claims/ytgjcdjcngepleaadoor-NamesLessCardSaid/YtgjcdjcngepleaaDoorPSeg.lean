/- strings.CutPrefix, Split, Join at a slash. -/
import Derived.Test.YtgjcdjcngepleaaDoorPRSplit
import Derived.Test.YtgjcdjcngepleaaDoorPShelf
import Derived.Test.YtgjcdjcngepleaaDoorPSplitS
import Derived.Test.YtgjcdjcngepleaaDoorJJoinS
import Derived.Lib.SplitLaws
namespace Go.Proofs
open Go.Shelf
theorem Tryd.joinX : Builder.Extra Tryd.prog Tryd.joinS_ren where
  sizeBuilder := by kernel_rfl
  liesBuilder := by kernel_rfl
  t5 := Tryd.underlying5
  a5 := Tryd.isAgg5
  z5 := Tryd.sizeOf5
  v5 := Tryd.zeroValue5
  infoByte := by kernel_rfl
  cellsByte := by kernel_rfl
  sizeByte := by kernel_rfl
  neB5 := by decide
end Go.Proofs
namespace Go.Proofs.YtgjcdjcngepleaaDoor
set_option linter.unusedVariables false
open Go.RowKit

theorem splitK_segs : ∀ l : List UInt8, Lib.splitK [47] 0 (Lib.count l [47]) l = segs l
  | [] => by rw [Lib.count_miss (by simp [Lib.index])]; rfl
  | c :: r => by
    have ih := splitK_segs r
    by_cases h : c = 47
    · subst h
      have hix : Lib.index ((47 : UInt8) :: r) [47] = ((0 : Nat) : Int) := by rw [Lib.index]; simp [List.isPrefixOf]
      rw [Lib.count_cons_eq, Nat.add_comm, Lib.splitK, hix, if_neg (by decide), segs_slash]
      show [] :: Lib.splitK [47] 0 _ r = _
      rw [ih]
    · have hp : ([47] : List UInt8).isPrefixOf (c :: r) = false := by simp [List.isPrefixOf, Ne.symm h]
      have hix : Lib.index (c :: r) [47] = if Lib.index r [47] == -1 then -1 else Lib.index r [47] + 1 := by rw [Lib.index, hp]; simp
      rw [Lib.count_cons_ne c 47 r h, segs, if_neg h]
      cases hk : Lib.count r [47] with
      | zero =>
        rw [hk] at ih
        rw [← ih]; rfl
      | succ k =>
        have hne : Lib.index r [47] ≠ -1 := fun e => by rw [Lib.count_miss e] at hk; omega
        have hge := Lib.index_ge r [47]
        obtain ⟨j, hj⟩ : ∃ j : Nat, Lib.index r [47] = j := ⟨(Lib.index r [47]).toNat, by omega⟩
        have hj1 : ¬ (((j : Nat) : Int) == -1) = true := fun e => by have := beq_iff_eq.1 e; omega
        have hix' : Lib.index (c :: r) [47] = ((j + 1 : Nat) : Int) := by rw [hix, hj, if_neg hj1]; omega
        have hj2 : ¬ (((j + 1 : Nat) : Int) == -1) = true := fun e => by have := beq_iff_eq.1 e; omega
        rw [hk, Lib.splitK, hj, if_neg hj1] at ih
        rw [← ih, Lib.splitK, hix', if_neg hj2]
        show (c :: r).take (j + 1) :: Lib.splitK [47] 0 k ((c :: r).drop (j + 1 + 1)) = _
        simp
theorem splitB_segs (s : ByteArray) : Lib.splitB ⟨#[47]⟩ 0 (Lib.countB s ⟨#[47]⟩) s = (segs s.data.toList).map bs := by
  have h := Lib.splitB_data ⟨#[47]⟩ 0 (Lib.countB s ⟨#[47]⟩) s
  have e : Lib.countB s ⟨#[47]⟩ = Lib.count s.data.toList [47] := rfl
  rw [e] at h ⊢
  rw [show (⟨#[47]⟩ : ByteArray).data.toList = [47] from rfl, splitK_segs] at h
  rw [← h, List.map_map]
  rw [show (bs ∘ fun s : ByteArray => s.data.toList) = id from funext fun s => bs_of s]; simp
theorem strs_split (s : ByteArray) (hs : s.size ≤ 1000) (w : World) :
    Calls Tryd.prog 25 #[.string s, .string ⟨#[47]⟩] w fun e w' => ∃ v, e = .returned v ∧ StrsAt w.heap.size v ((segs s.data.toList).map bs) w' ∧ Below w.heap.size w w' := by
  have hi9 : (Tryd.prog.info? (Tryd.splitS_ren.t 9)).map (fun i => (i.zero, i.size, i.bytes)) = some (some (.string ByteArray.empty), 1, 16) := by kernel_rfl
  have hle : Lib.countB s ⟨#[47]⟩ ≤ s.size := Lib.countB_le ⟨#[47]⟩ (by decide) s.size s (Nat.le_refl _)
  have hlen := Lib.splitB_all ⟨#[47]⟩ (by decide) 0 _ s rfl
  have hI : ∀ (x : ByteArray) (c : Array Value), x.size ≤ s.size → Calls Tryd.prog (Tryd.splitS_ren.f 143) #[.string x, .string ⟨#[47]⟩] (w.alloc (.cells c (Tryd.splitS_ren.t 9))) fun e w' => e = .returned (.int .i64 (Lib.indexB x ⟨#[47]⟩)) ∧ w' = w.alloc (.cells c (Tryd.splitS_ren.t 9)) := fun x c _ => by
    have h := Any.strings_Index_one { Tryd.splitS with } x 47 (w.alloc (.cells c (Tryd.splitS_ren.t 9)))
    refine h.mono fun e w' ⟨he, hw⟩ => ⟨?_, hw⟩
    rw [he]
    show _ = Ending.returned (.int .i64 (Lib.index x.data.toList [47]))
    rw [Lib.index_one]
  have hC : Calls Tryd.prog (Tryd.splitS_ren.f 138) #[.string s, .string ⟨#[47]⟩] w fun e w' => e = .returned (.int .i64 (Lib.countB s ⟨#[47]⟩)) ∧ w' = w := by
    refine (Any.strings_Count_one { Tryd.splitS with } s 47 w).mono fun e w' ⟨he, hw⟩ => ⟨?_, hw⟩
    rw [he]
    show _ = Ending.returned (Value.int .i64 ((Lib.count s.data.toList [47] : Nat) : Int))
    rw [Lib.count_one]; rfl
  have c := Any.strings_genSplit_core { Tryd.splitS with } hi9 s ⟨#[47]⟩ 0 (-1) (Lib.countB s ⟨#[47]⟩ + 1) w (by omega) (by decide) (Nat.zero_le _) hI hC (by decide) (by decide) (by rw [if_pos (by decide)]; omega)
  rw [Nat.add_sub_cancel, hlen] at c
  have e2 : Lib.cellsOf (Lib.splitB ⟨#[47]⟩ 0 (Lib.countB s ⟨#[47]⟩) s) (Lib.countB s ⟨#[47]⟩ + 1) = ((Lib.splitB ⟨#[47]⟩ 0 (Lib.countB s ⟨#[47]⟩) s).map Value.string).toArray := by rw [← hlen]; exact Lib.cellsOf_full _
  rw [e2] at c
  have hN := strsAt_new w (Lib.splitB ⟨#[47]⟩ 0 (Lib.countB s ⟨#[47]⟩) s) (by omega)
  rw [hlen, splitB_segs] at hN
  rw [splitB_segs, show Tryd.splitS_ren.f 221 = 33 by kernel_rfl, show Tryd.splitS_ren.t 9 = 9 by kernel_rfl] at c
  generalize Lib.countB s ⟨#[47]⟩ = N at *
  generalize (segs s.data.toList).map bs = L at *
  clear hI hC hlen hle hi9 e2
  have hb := balloc1 w (.cells (L.map Value.string).toArray 9)
  generalize w.alloc (.cells (L.map Value.string).toArray 9) = w9 at *
  have C := Lib.hid c
  have HN := Lib.hid hN
  clear c hN
  go_enter Tryd.func25, Tryd.ntmps25
  go_wp2_with fail
  refine C.out.mono ?_; rintro e w2 ⟨rfl, rfl⟩
  go_wp2
  go_ret
  exact ⟨_, rfl, by simpa using HN.out, hb⟩
theorem cut_pre (s : ByteArray) (w : World) :
    Calls Tryd.prog 18 #[.string s, .string ⟨#[47]⟩] w fun e w' => ∃ r : ByteArray, e = .returned (.tuple #[.string r, .bool (decide (s.data.toList.head? = some 47))]) ∧ Hid (s.data.toList.head? = some 47 → r = bs (s.data.toList.drop 1)) ∧ w' = w := by
  have h := Any.strings_CutPrefix Tryd.cutPre s ⟨#[47]⟩ w
  rw [show Tryd.cutPre_ren.f 103 = 18 by kernel_rfl] at h
  refine h.mono fun e w' ⟨he, hw⟩ => ⟨bs (Lib.trimPrefix s.data.toList [47]), ?_, ?_, hw⟩
  · rw [he]
    have hh : Lib.hasPrefix s.data.toList [47] = decide (s.data.toList.head? = some 47) := by
      unfold Lib.hasPrefix
      cases s.data.toList with
      | nil => rfl
      | cons c r =>
        rw [Bool.eq_iff_iff]
        simp only [List.isPrefixOf, Bool.and_true, beq_iff_eq, List.head?_cons, Option.some.injEq, decide_eq_true_eq]
        exact ⟨fun h => h.symm, fun h => h.symm⟩
    show Ending.returned (.tuple #[.string (bs (Lib.trimPrefix s.data.toList [47])), .bool (Lib.hasPrefix s.data.toList [47])]) = _
    rw [hh]
  · refine Lib.hid fun hd => ?_
    unfold Lib.trimPrefix Lib.hasPrefix
    cases e2 : s.data.toList with
    | nil => rw [e2] at hd; simp at hd
    | cons c r =>
      rw [e2] at hd
      simp at hd
      subst hd
      simp [List.isPrefixOf]
theorem join_slashed : ∀ {xs : List (List UInt8)}, xs ≠ [] → 47 :: Lib.join xs [47] = slashed xs
  | [], h => absurd rfl h
  | x :: r, _ => by
    rw [Lib.join_cons, slashed_cons]
    congr 2
theorem strs_join (l : List ByteArray) (hc : Comps l) (hl : l.length ≤ 16) (v : Value) (w : World) (hv : StrsIn v l w) :
    Calls Tryd.prog 23 #[v, .string ⟨#[47]⟩] w fun e w' => ∃ J : ByteArray, e = .returned (.string J) ∧ Hid (⟨#[47]⟩ ++ J = pathOf l) ∧ J.size ≤ 1000 ∧ Below w.heap.size w w' := by
  obtain ⟨ad, cap, rfl, h1, h2, h3, -⟩ := strsIn_cells hv
  have hf : Tryd.joinS_ren.f 156 = 23 := by kernel_rfl
  by_cases h0 : l = []
  · subst h0
    have h := Any.strings_Join_none Tryd.joinS Tryd.joinX ad cap ⟨#[47]⟩ w
    rw [hf] at h
    exact h.mono fun e w' ⟨he, hw⟩ => ⟨⟨#[]⟩, by rw [he], Lib.hid rfl, Nat.zero_le _, hw ▸ Below.refl _ _⟩
  · have hpos : 0 < l.length := List.length_pos_iff.2 h0
    obtain ⟨g, o, rfl, hg, hcc⟩ := h3 hpos
    have hsz := comps_size hc
    have hj : 47 :: Lib.join (bytesOf l) [47] = slashed (bytesOf l) := join_slashed (by unfold bytesOf; simpa using h0)
    have hl2 : (Lib.join (bytesOf l) [47]).length + 1 = (pathB l).size := by
      rw [← bsize, pathB_list, ← hj]; rfl
    have h := Any.strings_Join Tryd.joinS Tryd.joinX g o cap l ⟨#[47]⟩ w (fun j x hx => by
      obtain ⟨hlt, rfl⟩ := List.getElem?_eq_some_iff.1 hx
      rw [hcc w (Below.refl _ _) j hlt, sat_eq hlt]) hg (by omega) h1 (by
        show (Lib.join (bytesOf l) [47]).length ≤ _
        omega)
    rw [hf] at h
    refine h.mono fun e w' ⟨he, hw⟩ => ⟨bs (Lib.join (bytesOf l) [47]), he, Lib.hid ?_, by rw [bs_size]; omega, hw⟩
    rw [pathOf_ne h0]
    show bs [47] ++ bs _ = _
    rw [bs_append]
    show bs (47 :: Lib.join (bytesOf l) [47]) = bs _
    rw [hj]
end Go.Proofs.YtgjcdjcngepleaaDoor
