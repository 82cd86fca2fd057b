/- A directory's block, as names, numbers and bytes: no program is named here. -/
import Derived.Test.YtgjcdjcngepleaaDoorKMath
namespace Go.Proofs.YtgjcdjcngepleaaDoor
set_option linter.unusedVariables false

structure Den where
  name : ByteArray
  ino : Int
theorem Den.ext' {a b : Den} (h1 : a.name = b.name) (h2 : a.ino = b.ino) : a = b := by cases a; cases b; simp_all
instance : Inhabited Den := ⟨⟨⟨#[]⟩, 0⟩⟩
instance : DecidableEq Den := fun a b => decidable_of_iff (a.name = b.name ∧ a.ino = b.ino) ⟨fun h => Den.ext' h.1 h.2, fun h => by subst h; exact ⟨rfl, rfl⟩⟩

/-! ### names, entries, lists -/
def charOk (c : UInt8) : Prop := c ≠ 0 ∧ c ≠ 47
instance (c : UInt8) : Decidable (charOk c) := by unfold charOk; infer_instance
def NameOk (s : ByteArray) : Prop := (1 ≤ s.size ∧ s.size ≤ 32) ∧ ∀ c ∈ s.data.toList, charOk c
instance (s : ByteArray) : Decidable (NameOk s) := by unfold NameOk; infer_instance
def InoIn (n : Int) : Prop := 0 ≤ n ∧ n ≤ 4294967295
instance (n : Int) : Decidable (InoIn n) := by unfold InoIn; infer_instance
def denLen (d : Den) : Nat := 5 + d.name.size
def used : List Den → Nat
  | [] => 0
  | d :: l => denLen d + used l
theorem used_append (a b : List Den) : used (a ++ b) = used a + used b := by
  induction a with
  | nil => simp [used]
  | cons d a ih => simp [used, ih]; omega
theorem used_snoc (a : List Den) (d : Den) : used (a ++ [d]) = used a + denLen d := by rw [used_append]; simp [used]
def Names (l : List Den) : Prop := ∀ d ∈ l, NameOk d.name
def Inos (l : List Den) : Prop := ∀ d ∈ l, InoIn d.ino
def Apart (l : List Den) : Prop := (l.map Den.name).Nodup
instance (l : List Den) : Decidable (Names l) := by unfold Names; infer_instance
instance (l : List Den) : Decidable (Inos l) := by unfold Inos; infer_instance
instance (l : List Den) : Decidable (Apart l) := by unfold Apart; infer_instance
/-- what Pack tells of a list -/
def packE (l : List Den) : Int := if ¬ Names l then 130 else if ¬ Inos l then 2 else if ¬ Apart l then 211 else if 128 < used l then 120 else 0
def ListOk (l : List Den) : Prop := Names l ∧ Inos l ∧ Apart l ∧ used l ≤ 128
instance (l : List Den) : Decidable (ListOk l) := by unfold ListOk; infer_instance
theorem packE_zero (l : List Den) : packE l = 0 ↔ ListOk l := by
  unfold packE ListOk
  by_cases h1 : Names l
  · by_cases h2 : Inos l
    · by_cases h3 : Apart l
      · by_cases h4 : 128 < used l
        · simp [h1, h2, h3, h4]
        · simp [h1, h2, h3, h4]; omega
      · simp [h1, h2, h3]
    · simp [h1, h2]
  · simp [h1]
theorem names_snoc (l : List Den) (x : Den) : Names (l ++ [x]) ↔ Names l ∧ NameOk x.name := by
  unfold Names; simp only [List.mem_append, List.mem_singleton]
  exact ⟨fun h => ⟨fun d hd => h d (.inl hd), h x (.inr rfl)⟩, fun h d hd => hd.elim (h.1 d) (fun e => e ▸ h.2)⟩
theorem inos_snoc (l : List Den) (x : Den) : Inos (l ++ [x]) ↔ Inos l ∧ InoIn x.ino := by
  unfold Inos; simp only [List.mem_append, List.mem_singleton]
  exact ⟨fun h => ⟨fun d hd => h d (.inl hd), h x (.inr rfl)⟩, fun h d hd => hd.elim (h.1 d) (fun e => e ▸ h.2)⟩
def Has (l : List Den) (s : ByteArray) : Prop := s ∈ l.map Den.name
instance (l : List Den) (s : ByteArray) : Decidable (Has l s) := decidable_of_iff (∃ d ∈ l, d.name = s) (by unfold Has; rw [List.mem_map])
theorem apart_snoc (l : List Den) (x : Den) : Apart (l ++ [x]) ↔ Apart l ∧ ¬ Has l x.name := by
  unfold Apart Has
  rw [List.map_append, List.nodup_append]
  constructor
  · rintro ⟨h1, -, h3⟩
    exact ⟨h1, fun hm => h3 _ hm x.name (by simp) rfl⟩
  · rintro ⟨h1, h2⟩
    refine ⟨h1, by simp, fun a ha b hb => ?_⟩
    simp at hb
    subst hb
    intro e; subst e; exact h2 ha
/-- what Insert tells: of a list that may be, and one more entry -/
def insE (l : List Den) (x : Den) : Int := if ¬ NameOk x.name then 130 else if ¬ InoIn x.ino then 2 else if Has l x.name then 211 else if 128 < used l + denLen x then 120 else 0
theorem packE_snoc {l : List Den} (h : ListOk l) (x : Den) : packE (l ++ [x]) = insE l x := by
  obtain ⟨h1, h2, h3, h4⟩ := h
  unfold packE insE
  rw [used_snoc]
  by_cases k1 : NameOk x.name
  · have e1 : Names (l ++ [x]) := (names_snoc l x).2 ⟨h1, k1⟩
    by_cases k2 : InoIn x.ino
    · have e2 : Inos (l ++ [x]) := (inos_snoc l x).2 ⟨h2, k2⟩
      by_cases k3 : Has l x.name
      · have e3 : ¬ Apart (l ++ [x]) := fun q => ((apart_snoc l x).1 q).2 k3
        simp [e1, e2, e3, k1, k2, k3]
      · have e3 : Apart (l ++ [x]) := (apart_snoc l x).2 ⟨h3, k3⟩
        simp [e1, e2, e3, k1, k2, k3]
    · have e2 : ¬ Inos (l ++ [x]) := fun q => k2 ((inos_snoc l x).1 q).2
      simp [e1, e2, k1, k2]
  · have e1 : ¬ Names (l ++ [x]) := fun q => k1 ((names_snoc l x).1 q).2
    simp [e1, k1]
theorem ins_ok {l : List Den} (h : ListOk l) {x : Den} (e : insE l x = 0) : ListOk (l ++ [x]) := by rw [← packE_snoc h, packE_zero] at e; exact e

/-! ### bytes -/
def denB (d : Den) : List UInt8 := UInt8.ofNat d.name.size :: (leB 4 d.ino.toNat ++ d.name.data.toList)
def densB (l : List Den) : List UInt8 := l.flatMap denB
theorem denB_length (d : Den) : (denB d).length = denLen d := by
  unfold denB denLen
  rw [List.length_cons, List.length_append, leB_length, show d.name.data.toList.length = d.name.size from rfl]; omega
theorem densB_cons (d : Den) (l : List Den) : densB (d :: l) = denB d ++ densB l := rfl
theorem densB_append (a b : List Den) : densB (a ++ b) = densB a ++ densB b := by unfold densB; rw [List.flatMap_append]
theorem densB_snoc (a : List Den) (d : Den) : densB (a ++ [d]) = densB a ++ denB d := by rw [densB_append, densB_cons]; simp [densB]
theorem densB_length (l : List Den) : (densB l).length = used l := by
  induction l with
  | nil => rfl
  | cons d l ih => rw [densB_cons, List.length_append, denB_length, ih]; rfl
def packL (l : List Den) : List UInt8 := densB l ++ List.replicate (128 - used l) 0
def pack (l : List Den) : ByteArray := bs (packL l)
theorem pack_size {l : List Den} (h : used l ≤ 128) : (pack l).size = 128 := by
  unfold pack packL; rw [bs_size, List.length_append, densB_length, List.length_replicate]; omega
theorem pack_list (l : List Den) : (pack l).data.toList = packL l := bs_list _

/-! ### read -/
def parseL : List UInt8 → Option (List Den)
  | [] => some []
  | c :: r => if c = 0 then some [] else if 4 + c.toNat ≤ r.length then (parseL (r.drop (4 + c.toNat))).map (fun l => ⟨bs ((r.drop 4).take c.toNat), (leN (r.take 4) : Int)⟩ :: l) else none
termination_by l => l.length
decreasing_by simp only [List.length_drop, List.length_cons]; omega
def parseB (b : ByteArray) : Option (List Den) := parseL b.data.toList
theorem parse_zeros (k : Nat) : parseL (List.replicate k 0) = some [] := by
  cases k with
  | zero => simp [parseL]
  | succ k => rw [List.replicate_succ, parseL, if_pos rfl]
theorem parse_dens : ∀ (l : List Den), (∀ d ∈ l, NameOk d.name ∧ InoIn d.ino) → ∀ k, parseL (densB l ++ List.replicate k 0) = some l
  | [], _, k => by show parseL ([] ++ _) = _; rw [List.nil_append]; exact parse_zeros k
  | d :: l, h, k => by
    obtain ⟨⟨⟨h1, h2⟩, _⟩, h3, h4⟩ := h d (by simp)
    have ht : (UInt8.ofNat d.name.size).toNat = d.name.size := by rw [UInt8.toNat_ofNat']; omega
    have hn : UInt8.ofNat d.name.size ≠ 0 := by
      intro e
      rw [e] at ht
      have : (0 : UInt8).toNat = 0 := rfl
      omega
    have hl : d.name.data.toList.length = d.name.size := rfl
    have e : densB (d :: l) ++ List.replicate k 0 = UInt8.ofNat d.name.size :: (leB 4 d.ino.toNat ++ (d.name.data.toList ++ (densB l ++ List.replicate k 0))) := by rw [densB_cons]; unfold denB; simp
    rw [e, parseL, if_neg hn, ht, if_pos (by rw [List.length_append, List.length_append, leB_length, hl]; omega)]
    have e1 : (leB 4 d.ino.toNat ++ (d.name.data.toList ++ (densB l ++ List.replicate k 0))).drop 4 = d.name.data.toList ++ (densB l ++ List.replicate k 0) := List.drop_left' (leB_length _ _)
    have e2 : (leB 4 d.ino.toNat ++ (d.name.data.toList ++ (densB l ++ List.replicate k 0))).take 4 = leB 4 d.ino.toNat := List.take_left' (leB_length _ _)
    have e3 : (leB 4 d.ino.toNat ++ (d.name.data.toList ++ (densB l ++ List.replicate k 0))).drop (4 + d.name.size) = densB l ++ List.replicate k 0 := by
      rw [← List.drop_drop, e1]; exact List.drop_left' hl
    rw [e1, e2, e3, parse_dens l (fun x hx => h x (by simp [hx])) k, List.take_left' hl, leN_leB, bs_of]
    show some (_ :: l) = _
    congr 2
    refine Den.ext' rfl ?_
    show (((d.ino.toNat % 256 ^ 4 : Nat) : Int)) = d.ino
    omega
theorem parse_pack {l : List Den} (h : ListOk l) : parseB (pack l) = some l := by
  unfold parseB; rw [pack_list]
  exact parse_dens l (fun d hd => ⟨h.1 d hd, h.2.1 d hd⟩) _
/-- is it the block of a list that may be? -/
def IsDir (b : ByteArray) : Prop := ∃ l, ListOk l ∧ pack l = b
/-- its list -/
def listOf (b : ByteArray) : List Den := (parseB b).getD []
theorem listOf_pack {l : List Den} (h : ListOk l) : listOf (pack l) = l := by unfold listOf; rw [parse_pack h]; rfl
theorem isDir_iff (b : ByteArray) : IsDir b ↔ ∃ l, parseB b = some l ∧ ListOk l ∧ pack l = b := by
  constructor
  · rintro ⟨l, h, rfl⟩; exact ⟨l, parse_pack h, h, rfl⟩
  · rintro ⟨l, -, h, e⟩; exact ⟨l, h, e⟩
theorem isDir_list {b : ByteArray} (h : IsDir b) : ListOk (listOf b) ∧ pack (listOf b) = b ∧ parseB b = some (listOf b) := by
  obtain ⟨l, h, rfl⟩ := h
  rw [listOf_pack h]; exact ⟨h, rfl, parse_pack h⟩
theorem isDir_size {b : ByteArray} (h : IsDir b) : b.size = 128 := by
  obtain ⟨l, h, rfl⟩ := h; exact pack_size h.2.2.2
instance (b : ByteArray) : Decidable (IsDir b) :=
  decidable_of_iff (ListOk (listOf b) ∧ pack (listOf b) = b) ⟨fun h => ⟨_, h.1, h.2⟩, fun h => ⟨(isDir_list h).1, (isDir_list h).2.1⟩⟩
theorem pack_inj {l m : List Den} (h : ListOk l) (hm : ListOk m) (e : pack l = pack m) : l = m := by rw [← listOf_pack h, e, listOf_pack hm]
theorem nil_ok : ListOk [] := ⟨fun d hd => by simp at hd, fun d hd => by simp at hd, by simp [Apart], by simp [used]⟩

/-- the text, read from a place on -/
def parseAt (b : ByteArray) (i : Nat) : Option (List Den) := parseL (b.data.toList.drop i)
theorem parseAt_zero (b : ByteArray) : parseAt b 0 = parseB b := rfl
theorem bsize (b : ByteArray) : b.data.toList.length = b.size := rfl
theorem drop_at {b : ByteArray} {i : Nat} (h : i < b.size) : b.data.toList.drop i = b[i] :: b.data.toList.drop (i + 1) := by
  rw [List.drop_eq_getElem_cons (by rw [bsize]; exact h)]; rfl
theorem parseAt_end {b : ByteArray} {i : Nat} (h : b.size ≤ i) : parseAt b i = some [] := by
  unfold parseAt; rw [List.drop_of_length_le (by rw [bsize]; exact h)]; simp [parseL]
theorem parseAt_stop {b : ByteArray} {i : Nat} (h : i < b.size) (h0 : b[i] = 0) : parseAt b i = some [] := by
  unfold parseAt; rw [drop_at h, parseL, if_pos h0]
theorem parseAt_none {b : ByteArray} {i : Nat} (h : i < b.size) (h0 : b[i] ≠ 0) (h1 : b.size < i + 5 + b[i].toNat) : parseAt b i = none := by
  unfold parseAt; rw [drop_at h, parseL, if_neg h0, if_neg (by rw [List.length_drop, bsize]; omega)]
theorem ext_bs (b : ByteArray) (i n : Nat) : b.extract i (i + n) = bs ((b.data.toList.drop i).take n) := by
  rw [← bs_of (b.extract i (i + n))]
  congr 1
  simp [ByteArray.data_extract, List.extract_eq_take_drop]
theorem parseAt_more {b : ByteArray} {i : Nat} (h : i < b.size) (h0 : b[i] ≠ 0) (h1 : i + 5 + b[i].toNat ≤ b.size) :
    parseAt b i = (parseAt b (i + 5 + b[i].toNat)).map (fun l => ⟨b.extract (i + 5) (i + 5 + b[i].toNat), (leN (fieldAt b (i + 1) 4) : Int)⟩ :: l) := by
  unfold parseAt
  rw [drop_at h, parseL, if_neg h0, if_pos (by rw [List.length_drop, bsize]; omega), List.drop_drop, List.drop_drop, ext_bs]
  rw [show i + 1 + (4 + b[i].toNat) = i + 5 + b[i].toNat by omega, show i + 1 + 4 = i + 5 by omega]
  rfl

/-! ### find, insert, remove -/
def findD (l : List Den) (s : ByteArray) : Option Int := (l.find? fun d => decide (d.name = s)).map Den.ino
theorem find_has (l : List Den) (s : ByteArray) : (findD l s).isSome = true ↔ Has l s := by
  unfold findD Has
  rw [Option.isSome_map, List.find?_isSome]
  simp only [decide_eq_true_eq, List.mem_map]
theorem find_none {l : List Den} {s : ByteArray} (h : ¬ Has l s) : findD l s = none := by
  cases e : findD l s with
  | none => rfl
  | some n => exact absurd ((find_has l s).1 (by rw [e]; rfl)) h
theorem find_snoc {l : List Den} {x : Den} (h : ¬ Has l x.name) : findD (l ++ [x]) x.name = some x.ino := by
  have := find_none h
  unfold findD at *
  rw [Option.map_eq_none_iff] at this
  rw [List.find?_append, this]; simp
/-- of names that are apart each entry is found -/
theorem find_mem {l : List Den} (h : Apart l) {d : Den} (hd : d ∈ l) : findD l d.name = some d.ino := by
  induction l with
  | nil => simp at hd
  | cons e l ih =>
    unfold Apart at h
    rw [List.map_cons, List.nodup_cons] at h
    unfold findD
    rw [List.find?_cons]
    by_cases hq : e.name = d.name
    · rcases List.mem_cons.1 hd with rfl | hd
      · simp
      · exact absurd (hq ▸ List.mem_map_of_mem (f := Den.name) hd) h.1
    · rcases List.mem_cons.1 hd with rfl | hd
      · exact absurd rfl hq
      · rw [show decide (e.name = d.name) = false from decide_eq_false hq]
        exact ih h.2 hd
def dropD (l : List Den) (s : ByteArray) : List Den := l.filter fun d => !decide (d.name = s)
theorem drop_none {l : List Den} {s : ByteArray} (h : ¬ Has l s) : dropD l s = l := by
  unfold dropD
  rw [List.filter_eq_self]
  intro d hd
  have : d.name ≠ s := fun e => h (e ▸ List.mem_map_of_mem (f := Den.name) hd)
  simp [this]
theorem drop_snoc {l : List Den} {x : Den} (h : ¬ Has l x.name) : dropD (l ++ [x]) x.name = l := by
  have := drop_none h
  unfold dropD at *
  rw [List.filter_append, this]; simp
theorem drop_apart {l : List Den} (h : Apart l) (s : ByteArray) : Apart (dropD l s) := by
  unfold Apart dropD at *
  exact List.Nodup.sublist (List.Sublist.map _ List.filter_sublist) h
theorem drop_hasnt (l : List Den) (s : ByteArray) : ¬ Has (dropD l s) s := by
  unfold Has dropD
  rw [List.mem_map]
  rintro ⟨d, hd, e⟩
  rw [List.mem_filter] at hd
  simp [e] at hd
/-- with a name that is there, once: the bytes and the entries that are left -/
theorem drop_used {l : List Den} (h : Apart l) {d : Den} (hd : d ∈ l) : used l = used (dropD l d.name) + denLen d ∧ l.length = (dropD l d.name).length + 1 := by
  induction l with
  | nil => simp at hd
  | cons e l ih =>
    have h' := h
    unfold Apart at h
    rw [List.map_cons, List.nodup_cons] at h
    unfold dropD
    rw [List.filter_cons]
    by_cases hq : e.name = d.name
    · have hn : ¬ Has l d.name := by rw [← hq]; exact h.1
      have hde : d = e := by
        rcases List.mem_cons.1 hd with q | q
        · exact q
        · exact absurd (List.mem_map_of_mem (f := Den.name) q) hn
      subst hde
      rw [show (!decide (d.name = d.name)) = false by simp, if_neg (by decide)]
      have := drop_none hn
      unfold dropD at this
      rw [this]
      exact ⟨by simp [used]; omega, by simp⟩
    · rcases List.mem_cons.1 hd with rfl | hd
      · exact absurd rfl hq
      · rw [show (!decide (e.name = d.name)) = true by simp [hq], if_pos rfl]
        have := ih h.2 hd
        unfold dropD at this
        exact ⟨by simp [used]; omega, by simp; omega⟩
theorem drop_le (l : List Den) (s : ByteArray) : used (dropD l s) ≤ used l := by
  induction l with
  | nil => simp [dropD, used]
  | cons e l ih =>
    unfold dropD at *
    rw [List.filter_cons]
    split
    · simp [used]; omega
    · simp [used]; omega
theorem drop_ok {l : List Den} (h : ListOk l) (s : ByteArray) : ListOk (dropD l s) := by
  obtain ⟨h1, h2, h3, h4⟩ := h
  have hs : ∀ d ∈ dropD l s, d ∈ l := fun d hd => by unfold dropD at hd; exact (List.mem_filter.1 hd).1
  exact ⟨fun d hd => h1 d (hs d hd), fun d hd => h2 d (hs d hd), drop_apart h3 s, Nat.le_trans (drop_le l s) h4⟩
theorem drop_length_has {l : List Den} (h : Apart l) (s : ByteArray) : (dropD l s).length = l.length ↔ ¬ Has l s := by
  constructor
  · intro e hm
    unfold Has at hm
    rw [List.mem_map] at hm
    obtain ⟨d, hd, rfl⟩ := hm
    have := (drop_used h hd).2
    omega
  · intro hn; rw [drop_none hn]
/-- the law Undo: put in again -/
theorem undo_again {l : List Den} (h : ListOk l) {d : Den} (hd : d ∈ l) : insE (dropD l d.name) d = 0 ∧ ListOk (dropD l d.name ++ [d]) ∧ (dropD l d.name ++ [d]).length = l.length := by
  have h1 := drop_used h.2.2.1 hd
  have h2 := drop_ok h d.name
  have e : insE (dropD l d.name) d = 0 := by
    unfold insE
    have k1 := h.1 d hd
    have k2 := h.2.1 d hd
    have k3 := drop_hasnt l d.name
    have k4 : ¬ 128 < used (dropD l d.name) + denLen d := by have := h.2.2.2; omega
    simp [k1, k2, k3, k4]
  exact ⟨e, ins_ok h2 e, by rw [List.length_append, List.length_singleton]; omega⟩
theorem has_mem {l : List Den} {s : ByteArray} (h : Has l s) : ∃ d ∈ l, d.name = s := by unfold Has at h; rw [List.mem_map] at h; exact h
end Go.Proofs.YtgjcdjcngepleaaDoor
