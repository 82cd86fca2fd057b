/- Paths and their parts, as lists of bytes: no program is named here. -/
import Derived.Test.YtgjcdjcngepleaaDoorEMath
namespace Go.Proofs.YtgjcdjcngepleaaDoor
set_option linter.unusedVariables false

/-! ### parts between slashes -/
def segs : List UInt8 → List (List UInt8)
  | [] => [[]]
  | c :: r => if c = 47 then [] :: segs r else match segs r with
    | [] => [[c]]
    | h :: t => (c :: h) :: t
theorem segs_ne (l : List UInt8) : segs l ≠ [] := by
  cases l with
  | nil => simp [segs]
  | cons c r =>
    unfold segs
    by_cases h : c = 47
    · rw [if_pos h]; simp
    · rw [if_neg h]; split <;> simp
theorem segs_slash (r : List UInt8) : segs (47 :: r) = [] :: segs r := by rw [segs, if_pos rfl]
def noSlash (l : List UInt8) : Prop := ∀ c ∈ l, c ≠ 47
theorem segs_plain : ∀ {a : List UInt8}, noSlash a → segs a = [a]
  | [], _ => rfl
  | c :: a, h => by rw [segs, if_neg (h c (by simp)), segs_plain (fun x hx => h x (by simp [hx]))]
theorem segs_cut : ∀ {a : List UInt8}, noSlash a → ∀ r, segs (a ++ 47 :: r) = a :: segs r
  | [], _, r => segs_slash r
  | c :: a, h, r => by
    show segs (c :: (a ++ 47 :: r)) = _
    rw [segs, if_neg (h c (by simp)), segs_cut (fun x hx => h x (by simp [hx])) r]
theorem segs_noSlash (l : List UInt8) : ∀ p ∈ segs l, noSlash p := by
  induction l with
  | nil => intro p hp; simp [segs] at hp; subst hp; intro c hc; simp at hc
  | cons c r ih =>
    intro p hp
    unfold segs at hp
    by_cases h : c = 47
    · rw [if_pos h] at hp
      rcases List.mem_cons.1 hp with rfl | hp
      · intro c hc; simp at hc
      · exact ih p hp
    · rw [if_neg h] at hp
      cases e : segs r with
      | nil => exact absurd e (segs_ne r)
      | cons a t =>
        rw [e] at hp ih
        rcases List.mem_cons.1 hp with rfl | hp
        · intro x hx
          rcases List.mem_cons.1 hx with rfl | hx
          · exact h
          · exact ih a (by simp) x hx
        · exact ih p (by simp [hp])
/-- each part behind a slash -/
def slashed (ps : List (List UInt8)) : List UInt8 := ps.flatMap fun p => 47 :: p
theorem slashed_cons (p : List UInt8) (ps : List (List UInt8)) : slashed (p :: ps) = 47 :: (p ++ slashed ps) := by unfold slashed; rw [List.flatMap_cons]; rfl
theorem slashed_append (a b : List (List UInt8)) : slashed (a ++ b) = slashed a ++ slashed b := by unfold slashed; rw [List.flatMap_append]
theorem segs_join (l : List UInt8) : slashed (segs l) = 47 :: l := by
  induction l with
  | nil => rfl
  | cons c r ih =>
    unfold segs
    by_cases h : c = 47
    · rw [if_pos h, slashed_cons, ih, h]; rfl
    · rw [if_neg h]
      cases e : segs r with
      | nil => exact absurd e (segs_ne r)
      | cons a t =>
        rw [e, slashed_cons] at ih
        have ih := List.cons.inj ih
        show slashed ((c :: a) :: t) = _
        rw [slashed_cons, List.cons_append, ih.2]
theorem segs_slashed : ∀ {ps : List (List UInt8)}, ps ≠ [] → (∀ p ∈ ps, noSlash p) → segs ((slashed ps).drop 1) = ps
  | [], h, _ => absurd rfl h
  | [p], _, h => by
    rw [slashed_cons]
    show segs (p ++ slashed []) = _
    rw [show slashed [] = [] from rfl, List.append_nil]
    exact segs_plain (h p (by simp))
  | p :: q :: ps, _, h => by
    rw [slashed_cons]
    show segs (p ++ slashed (q :: ps)) = _
    rw [slashed_cons, segs_cut (h p (by simp))]
    have := segs_slashed (ps := q :: ps) (by simp) (fun x hx => h x (by simp [hx]))
    rw [slashed_cons] at this
    rw [show q ++ slashed ps = (47 :: (q ++ slashed ps)).drop 1 from rfl, this]

/-! ### paths -/
def slashB : ByteArray := ⟨#[47]⟩
def dotB : ByteArray := ⟨#[46]⟩
def dotsB : ByteArray := ⟨#[46, 46]⟩
def nameE (s : ByteArray) : Int := if NameOk s ∧ s ≠ dotB ∧ s ≠ dotsB then 0 else 130
abbrev bytesOf (l : List ByteArray) : List (List UInt8) := l.map fun s => s.data.toList
def pathB (l : List ByteArray) : ByteArray := bs (slashed (bytesOf l))
def pathOf (l : List ByteArray) : ByteArray := if l = [] then slashB else pathB l
def Comps (l : List ByteArray) : Prop := ∀ s ∈ l, NameOk s
instance (l : List ByteArray) : Decidable (Comps l) := by unfold Comps; infer_instance
def joinE (l : List ByteArray) : Int := if ¬ Comps l then 130 else if 16 < l.length then 3 else if 256 < (pathB l).size then 3 else 0
def JoinOk (l : List ByteArray) : Prop := Comps l ∧ l.length ≤ 16 ∧ (pathB l).size ≤ 256
instance (l : List ByteArray) : Decidable (JoinOk l) := by unfold JoinOk; infer_instance
theorem joinE_zero (l : List ByteArray) : joinE l = 0 ↔ JoinOk l := by
  unfold joinE JoinOk
  by_cases h1 : Comps l
  · by_cases h2 : 16 < l.length
    · simp [h1, h2]; omega
    · by_cases h3 : 256 < (pathB l).size
      · simp [h1, h2, h3]
      · simp [h1, h2, h3]; omega
  · simp [h1]
theorem pathB_nil : pathB [] = ⟨#[]⟩ := rfl
theorem pathB_append (a b : List ByteArray) : pathB (a ++ b) = pathB a ++ pathB b := by
  unfold pathB bytesOf; rw [List.map_append, slashed_append, bs_append]
theorem pathB_one (s : ByteArray) : pathB [s] = slashB ++ s := by
  unfold pathB bytesOf
  rw [List.map_singleton, slashed_cons]
  show bs ([47] ++ (s.data.toList ++ [])) = _
  rw [List.append_nil, ← bs_append, bs_of]; rfl
theorem pathB_snoc (a : List ByteArray) (s : ByteArray) : pathB (a ++ [s]) = pathB a ++ (slashB ++ s) := by rw [pathB_append, pathB_one]
theorem pathB_cons (s : ByteArray) (a : List ByteArray) : pathB (s :: a) = slashB ++ s ++ pathB a := by rw [show s :: a = [s] ++ a from rfl, pathB_append, pathB_one]
theorem pathB_size : ∀ (l : List ByteArray), (pathB l).size = (l.map fun s => s.size + 1).sum
  | [] => rfl
  | s :: l => by
    rw [pathB_cons, ByteArray.size_append, ByteArray.size_append, pathB_size l]
    rw [List.map_cons, List.sum_cons]
    have : slashB.size = 1 := rfl
    omega
theorem pathB_list (l : List ByteArray) : (pathB l).data.toList = slashed (bytesOf l) := bs_list _
/-- the parts of a text, were it a path: what lies between its slashes, behind the first one -/
def partsOf (s : ByteArray) : List ByteArray := (segs (s.data.toList.drop 1)).map bs
def splitE (s : ByteArray) : Int :=
  if 256 < s.size then 3 else if s.data.toList.head? ≠ some 47 then 130 else if s.size = 1 then 0 else if ¬ Comps (partsOf s) then 130 else if 16 < (partsOf s).length then 3 else 0
def splitV (s : ByteArray) : List ByteArray := if splitE s = 0 ∧ s.size ≠ 1 then partsOf s else []
theorem comps_noSlash {l : List ByteArray} (h : Comps l) : ∀ p ∈ bytesOf l, noSlash p := by
  intro p hp
  unfold bytesOf at hp
  rw [List.mem_map] at hp
  obtain ⟨s, hs, rfl⟩ := hp
  intro c hc
  exact ((h s hs).2 c hc).2
theorem bytes_back (l : List ByteArray) : (bytesOf l).map bs = l := by
  unfold bytesOf; rw [List.map_map]
  rw [show (bs ∘ fun s : ByteArray => s.data.toList) = id from funext fun s => bs_of s]; simp
theorem parts_path {l : List ByteArray} (h : Comps l) (hn : l ≠ []) : partsOf (pathB l) = l := by
  unfold partsOf
  rw [pathB_list, segs_slashed (by unfold bytesOf; simpa using hn) (comps_noSlash h), bytes_back]
theorem bytes_bs (ls : List (List UInt8)) : bytesOf (ls.map bs) = ls := by
  unfold bytesOf; rw [List.map_map]
  rw [show ((fun s : ByteArray => s.data.toList) ∘ bs) = id from funext fun s => bs_list s]; simp
theorem path_parts {s : ByteArray} (h : s.data.toList.head? = some 47) : pathB (partsOf s) = s := by
  unfold pathB partsOf
  rw [bytes_bs, segs_join]
  have : s.data.toList = 47 :: s.data.toList.drop 1 := by
    cases e : s.data.toList with
    | nil => rw [e] at h; simp at h
    | cons c r => rw [e] at h; simp at h; subst h; rfl
  rw [← this, bs_of]
theorem parts_ne (s : ByteArray) : partsOf s ≠ [] := by unfold partsOf; simp [segs_ne]
theorem path_head {l : List ByteArray} (hn : l ≠ []) : (pathB l).data.toList.head? = some 47 := by
  cases l with
  | nil => exact absurd rfl hn
  | cons s l => rw [pathB_list]; unfold bytesOf; rw [List.map_cons, slashed_cons]; rfl
theorem pathOf_ne {l : List ByteArray} (hn : l ≠ []) : pathOf l = pathB l := by unfold pathOf; rw [if_neg hn]
theorem path_big {l : List ByteArray} (h : Comps l) (hn : l ≠ []) : 2 ≤ (pathB l).size := by
  cases l with
  | nil => exact absurd rfl hn
  | cons s l =>
    have := (h s (by simp)).1.1
    rw [pathB_size, List.map_cons, List.sum_cons]; omega
theorem one_slash {s : ByteArray} (h : s.data.toList.head? = some 47) (h1 : s.size = 1) : s = slashB := by
  have hl : s.data.toList.length = 1 := h1
  rw [← bs_of s]
  match e : s.data.toList, hl with
  | [c], _ => rw [e] at h; simp at h; subst h; rfl
/-- what is split into parts, and only that, is their path -/
theorem split_iff (s : ByteArray) (l : List ByteArray) : (splitE s = 0 ∧ splitV s = l) ↔ (JoinOk l ∧ pathOf l = s) := by
  constructor
  · rintro ⟨h, hl⟩
    have h' := h
    unfold splitE at h
    by_cases k1 : 256 < s.size
    · simp [k1] at h
    by_cases k2 : s.data.toList.head? = some 47
    · by_cases k3 : s.size = 1
      · have : l = [] := by rw [← hl]; unfold splitV; rw [if_neg (by simp [k3])]
        subst this
        exact ⟨⟨fun x hx => by simp at hx, by simp, by rw [pathB_nil]; decide⟩, (one_slash k2 k3).symm⟩
      · by_cases k4 : Comps (partsOf s)
        · by_cases k5 : 16 < (partsOf s).length
          · simp [k1, k2, k3, k4, k5] at h
          · have : l = partsOf s := by rw [← hl]; unfold splitV; rw [if_pos ⟨h', k3⟩]
            subst this
            refine ⟨⟨k4, by omega, by rw [path_parts k2]; omega⟩, ?_⟩
            rw [pathOf_ne (parts_ne s), path_parts k2]
        · simp [k1, k2, k3, k4] at h
    · simp [k1, k2] at h
  · rintro ⟨⟨h1, h2, h3⟩, rfl⟩
    by_cases hn : l = []
    · subst hn
      have e : pathOf [] = slashB := rfl
      rw [e]
      refine ⟨by decide, ?_⟩
      unfold splitV; rw [if_neg (by intro k; exact k.2 rfl)]
    · rw [pathOf_ne hn]
      have hp := parts_path h1 hn
      have hh := path_head hn
      have hb := path_big h1 hn
      have e : splitE (pathB l) = 0 := by
        unfold splitE
        rw [if_neg (by omega), if_neg (by rw [hh]; simp), if_neg (by omega), hp, if_neg (by simp [h1]), if_neg (by omega)]
      refine ⟨e, ?_⟩
      unfold splitV; rw [if_pos ⟨e, by omega⟩, hp]
theorem split_path {l : List ByteArray} (h : JoinOk l) : splitE (pathOf l) = 0 ∧ splitV (pathOf l) = l := (split_iff _ _).2 ⟨h, rfl⟩
theorem join_split {s : ByteArray} (h : splitE s = 0) : JoinOk (splitV s) ∧ pathOf (splitV s) = s := (split_iff _ _).1 ⟨h, rfl⟩
theorem split_bad {s : ByteArray} (h : splitE s ≠ 0) : splitV s = [] ∧ (splitE s = 3 ∨ splitE s = 130) := by
  refine ⟨by unfold splitV; rw [if_neg (fun k => h k.1)], ?_⟩
  unfold splitE at *
  by_cases k1 : 256 < s.size
  · simp [k1]
  by_cases k2 : s.data.toList.head? = some 47
  · by_cases k3 : s.size = 1
    · simp [k1, k2, k3] at h
    · by_cases k4 : Comps (partsOf s)
      · by_cases k5 : 16 < (partsOf s).length
        · simp [k1, k2, k3, k4, k5]
        · simp [k1, k2, k3, k4, k5] at h
      · simp [k1, k2, k3, k4]
  · simp [k1, k2]

/-! ### cuts of a text: for loops that look for slashes -/
/-- the parts from a place on, the text read as if a part began there -/
def segsAt (s : ByteArray) (i : Nat) : List ByteArray := (segs (s.data.toList.drop i)).map bs
theorem segsAt_one (s : ByteArray) : segsAt s 1 = partsOf s := rfl
def NoSlash (s : ByteArray) (a i : Nat) : Prop := ∀ j, a ≤ j → j < i → s.data.toList[j]? ≠ some 47
theorem noSlash_take {s : ByteArray} {a i : Nat} (h : NoSlash s a i) : noSlash ((s.data.toList.drop a).take (i - a)) := by
  intro c hc e
  subst e
  obtain ⟨k, hk, e⟩ := List.getElem_of_mem hc
  have hk2 : k < i - a := by rw [List.length_take] at hk; omega
  apply h (a + k) (by omega) (by omega)
  have e2 : ((s.data.toList.drop a).take (i - a))[k]? = some 47 := by rw [List.getElem?_eq_getElem hk, e]
  rw [List.getElem?_take_of_lt hk2, List.getElem?_drop] at e2
  exact e2
theorem segsAt_cut {s : ByteArray} {a i : Nat} (h : NoSlash s a i) (ha : a ≤ i) (hi : s.data.toList[i]? = some 47) : segsAt s a = s.extract a i :: segsAt s (i + 1) := by
  have hl : i < s.data.toList.length := (List.getElem?_eq_some_iff.1 hi).1
  have e : s.data.toList.drop a = (s.data.toList.drop a).take (i - a) ++ 47 :: s.data.toList.drop (i + 1) := by
    have h1 : (s.data.toList.drop a).drop (i - a) = 47 :: s.data.toList.drop (i + 1) := by
      rw [List.drop_drop, show a + (i - a) = i by omega, List.drop_eq_getElem_cons hl]
      rw [List.getElem?_eq_getElem hl] at hi
      rw [Option.some.inj hi]
    rw [← h1, List.take_append_drop]
  unfold segsAt
  rw [e, segs_cut (noSlash_take h), List.map_cons]
  congr 1
  have := ext_bs s a (i - a)
  rw [show a + (i - a) = i by omega] at this
  rw [this]
theorem segsAt_last {s : ByteArray} {a : Nat} (h : NoSlash s a s.size) (ha : a ≤ s.size) : segsAt s a = [s.extract a s.size] := by
  have e : s.data.toList.drop a = (s.data.toList.drop a).take (s.size - a) := by
    rw [List.take_of_length_le]; rw [List.length_drop, bsize]; exact Nat.le_refl _
  unfold segsAt
  rw [e, segs_plain (noSlash_take h), List.map_singleton]
  have := ext_bs s a (s.size - a)
  rw [show a + (s.size - a) = s.size by omega] at this
  rw [this]

/-! ### the laws' sentences -/
theorem comps_snoc (l : List ByteArray) (s : ByteArray) : Comps (l ++ [s]) ↔ Comps l ∧ NameOk s := by
  unfold Comps; simp only [List.mem_append, List.mem_singleton]
  exact ⟨fun h => ⟨fun d hd => h d (.inl hd), h s (.inr rfl)⟩, fun h d hd => hd.elim (h.1 d) (fun e => e ▸ h.2)⟩
theorem comps_append (l m : List ByteArray) : Comps (l ++ m) ↔ Comps l ∧ Comps m := by
  unfold Comps; simp only [List.mem_append]
  exact ⟨fun h => ⟨fun d hd => h d (.inl hd), fun d hd => h d (.inr hd)⟩, fun h d hd => hd.elim (h.1 d) (h.2 d)⟩
/-- without the last part -/
theorem less_path {l : List ByteArray} {p : ByteArray} (h : JoinOk (l ++ [p])) : JoinOk l ∧ (pathB (l ++ [p])).size = (pathB l).size + 1 + p.size ∧ pathB l = (pathB (l ++ [p])).extract 0 (pathB l).size := by
  obtain ⟨h1, h2, h3⟩ := h
  have e : (pathB (l ++ [p])).size = (pathB l).size + 1 + p.size := by
    rw [pathB_snoc, ByteArray.size_append, ByteArray.size_append]
    have : slashB.size = 1 := rfl
    omega
  refine ⟨⟨((comps_snoc l p).1 h1).1, by rw [List.length_append] at h2; omega, by omega⟩, e, ?_⟩
  have := ext_bs (pathB (l ++ [p])) 0 (pathB l).size
  rw [Nat.zero_add] at this
  rw [this, pathB_snoc]
  have e2 : (pathB l ++ (slashB ++ p)).data.toList = (pathB l).data.toList ++ (slashB ++ p).data.toList := by simp [ByteArray.data_append]
  rw [e2, List.drop_zero, List.take_left' (bsize _), bs_of]
/-- with one part more -/
theorem more_path {l : List ByteArray} (h : JoinOk l) {p : ByteArray} (hp : NameOk p) (h1 : (pathB l).size + 1 + p.size ≤ 256) (h2 : l.length < 16) : JoinOk (l ++ [p]) := by
  refine ⟨(comps_snoc l p).2 ⟨h.1, hp⟩, by rw [List.length_append, List.length_singleton]; omega, ?_⟩
  rw [pathB_snoc, ByteArray.size_append, ByteArray.size_append]
  have : slashB.size = 1 := rfl
  omega
theorem two_path {l m : List ByteArray} (h : JoinOk l) (hm : JoinOk m) (h1 : (pathB l).size + (pathB m).size ≤ 256) (h2 : l.length + m.length ≤ 16) : JoinOk (l ++ m) :=
  ⟨(comps_append l m).2 ⟨h.1, hm.1⟩, by rw [List.length_append]; exact h2, by rw [pathB_append, ByteArray.size_append]; exact h1⟩
/-- a path of parts, and what Split tells of it whatever its size -/
theorem splitE_path {l : List ByteArray} (h : Comps l) (hn : l ≠ []) : splitE (pathB l) = (if 256 < (pathB l).size then 3 else if 16 < l.length then 3 else 0) := by
  have hp := parts_path h hn
  have hb := path_big h hn
  unfold splitE
  by_cases k : 256 < (pathB l).size
  · rw [if_pos k, if_pos k]
  · rw [if_neg k, if_neg k, if_neg (by rw [path_head hn]; simp), if_neg (by omega), hp, if_neg (by simp [h])]
theorem nameOk_nil : ¬ NameOk ⟨#[]⟩ := by intro h; exact absurd h.1.1 (by decide)
/-- two slashes side by side -/
theorem splitE_double {l m : List ByteArray} (h : Comps l) (hm : Comps m) (hl : l ≠ []) (hn : m ≠ []) : splitE (pathB l ++ (slashB ++ pathB m)) = (if 256 < (pathB l).size + 1 + (pathB m).size then 3 else 130) := by
  have e : pathB l ++ (slashB ++ pathB m) = pathB (l ++ ([⟨#[]⟩] ++ m)) := by
    rw [pathB_append, pathB_append, pathB_one]
    have : slashB ++ (⟨#[]⟩ : ByteArray) = slashB := rfl
    rw [this]
  have hsz : (pathB (l ++ ([⟨#[]⟩] ++ m))).size = (pathB l).size + 1 + (pathB m).size := by
    rw [← e, ByteArray.size_append, ByteArray.size_append]
    have : slashB.size = 1 := rfl
    omega
  have hne : l ++ ([⟨#[]⟩] ++ m) ≠ [] := by simp
  have hpl := path_big h hl
  rw [e]
  unfold splitE
  by_cases k : 256 < (pathB l).size + 1 + (pathB m).size
  · rw [if_pos (by omega), if_pos k]
  · rw [if_neg (by omega), if_neg k, if_neg (by rw [path_head hne]; simp), if_neg (by omega), if_pos]
    intro hc
    have hp : partsOf (pathB (l ++ ([⟨#[]⟩] ++ m))) = l ++ ([⟨#[]⟩] ++ m) := by
      unfold partsOf
      rw [pathB_list, segs_slashed (by unfold bytesOf; simp), bytes_back]
      intro p hp
      unfold bytesOf at hp
      rw [List.map_append, List.map_append] at hp
      rcases List.mem_append.1 hp with hp | hp
      · exact comps_noSlash h p hp
      · rcases List.mem_append.1 hp with hp | hp
        · simp at hp; subst hp; intro c hc; simp at hc
        · exact comps_noSlash hm p hp
    rw [hp] at hc
    exact nameOk_nil (hc ⟨#[]⟩ (by simp))
end Go.Proofs.YtgjcdjcngepleaaDoor
