import Derived.Test.YtanghmogeiiooaaGreatDoorPa03
import Derived.Test.YtanghmogeiiooaaGreatDoorPa06
set_option linter.unusedVariables false
set_option linter.unusedSimpArgs false
set_option linter.constructorNameAsVariable false
/- A log on a device: acts one behind the other, and the transactions that stand in it: no program is named here. -/
namespace Go.Proofs.YtanghmogeiiooaaGreatDoor
set_option linter.unusedVariables false

/-! ### acts -/
inductive Deed where
  | write (b : Int) (d : ByteArray)
  | flush
def Deed.code (S : St) : Deed → Int
  | .write b d => wCode S b d.size
  | .flush => fCode S
def Deed.st (S : St) : Deed → St
  | .write b d => wSt S b d
  | .flush => fSt S
/-- the acts one behind the other, up to the first that fails: its code, and the device then -/
def deeds : St → List Deed → Int × St
  | S, [] => (0, S)
  | S, a :: l => if a.code S = 0 then deeds (a.st S) l else (a.code S, a.st S)
theorem deeds_nil (S : St) : deeds S [] = (0, S) := rfl
theorem deeds_yes {S : St} {a : Deed} {l : List Deed} (h : a.code S = 0) : deeds S (a :: l) = deeds (a.st S) l := by
  show (if _ then _ else _) = _; rw [if_pos h]
theorem deeds_no {S : St} {a : Deed} {l : List Deed} (h : a.code S ≠ 0) : deeds S (a :: l) = (a.code S, a.st S) := by
  show (if _ then _ else _) = _; rw [if_neg h]
theorem deeds_append (S : St) (a b : List Deed) : deeds S (a ++ b) = if (deeds S a).1 = 0 then deeds (deeds S a).2 b else deeds S a := by
  induction a generalizing S with
  | nil => rw [List.nil_append, deeds_nil, if_pos rfl]
  | cons x a ih =>
    rw [List.cons_append]
    by_cases h : x.code S = 0
    · rw [deeds_yes h, deeds_yes h, ih]
    · rw [deeds_no h, deeds_no h, if_neg h]
theorem deeds_app_yes {S : St} {a b : List Deed} (h : (deeds S a).1 = 0) : deeds S (a ++ b) = deeds (deeds S a).2 b := by rw [deeds_append, if_pos h]
theorem deeds_app_no {S : St} {a b : List Deed} (h : (deeds S a).1 ≠ 0) : deeds S (a ++ b) = deeds S a := by rw [deeds_append, if_neg h]
theorem Deed.ok {S : St} (h : S.ok) (a : Deed) : (a.st S).ok := by
  cases a with
  | write b d => exact wSt_ok h b d
  | flush => exact fSt_ok h
theorem deeds_ok {S : St} (h : S.ok) (l : List Deed) : (deeds S l).2.ok := by
  induction l generalizing S with
  | nil => exact h
  | cons a l ih =>
    by_cases hc : a.code S = 0
    · rw [deeds_yes hc]; exact ih (a.ok h)
    · rw [deeds_no hc]; exact a.ok h
theorem Deed.n (S : St) (a : Deed) : (a.st S).n = S.n := by
  cases a with
  | write b d => exact wSt_n S b d
  | flush => exact fSt_n S
theorem deeds_n (S : St) (l : List Deed) : (deeds S l).2.n = S.n := by
  induction l generalizing S with
  | nil => rfl
  | cons a l ih =>
    by_cases hc : a.code S = 0
    · rw [deeds_yes hc, ih, a.n]
    · rw [deeds_no hc, a.n]

/-! ### the transaction that stands at a place -/
structure Tx where
  changes : List (Int × ByteArray)
  revokes : List Int
def dataAt (rd : Nat → ByteArray) (p : Nat) (r : Rec) (i : Nat) : Int × ByteArray :=
  (hat r.homes i, if (r.masked[i]?).getD false then unmaskV (rd (p + i)) else rd (p + i))
/-- the changes that a descriptor names, its data from p on -/
def dataOf (rd : Nat → ByteArray) (p : Nat) (r : Rec) (k : Nat) : List (Int × ByteArray) := (List.range k).map (dataAt rd p r)
/-- the bytes of k blocks from p on -/
def bytesOf (rd : Nat → ByteArray) (p k : Nat) : List UInt8 := (List.range k).flatMap fun i => (rd (p + i)).data.toList
theorem bytesOf_zero (rd : Nat → ByteArray) (p : Nat) : bytesOf rd p 0 = [] := rfl
theorem bytesOf_succ (rd : Nat → ByteArray) (p k : Nat) : bytesOf rd p (k + 1) = bytesOf rd p k ++ (rd (p + k)).data.toList := by
  unfold bytesOf; rw [List.range_succ, List.flatMap_append]; simp
theorem bytesOf_add (rd : Nat → ByteArray) (p a b : Nat) : bytesOf rd p (a + b) = bytesOf rd p a ++ bytesOf rd (p + a) b := by
  induction b with
  | zero => simp [bytesOf_zero]
  | succ b ih => rw [← Nat.add_assoc, bytesOf_succ, ih, bytesOf_succ, List.append_assoc, Nat.add_assoc]
theorem bytesOf_congr {rd rd' : Nat → ByteArray} {p k : Nat} (h : ∀ i, i < k → rd (p + i) = rd' (p + i)) : bytesOf rd p k = bytesOf rd' p k := by
  induction k with
  | zero => rfl
  | succ k ih => rw [bytesOf_succ, bytesOf_succ, ih fun i hi => h i (by omega), h k (by omega)]
theorem dataOf_succ (rd : Nat → ByteArray) (p : Nat) (r : Rec) (k : Nat) : dataOf rd p r (k + 1) = dataOf rd p r k ++ [dataAt rd p r k] := by
  unfold dataOf; rw [List.range_succ, List.map_append]; rfl
theorem dataOf_congr {rd rd' : Nat → ByteArray} {p : Nat} {r : Rec} {k : Nat} (h : ∀ i, i < k → rd (p + i) = rd' (p + i)) : dataOf rd p r k = dataOf rd' p r k := by
  induction k with
  | zero => rfl
  | succ k ih =>
    rw [dataOf_succ, dataOf_succ, ih fun i hi => h i (by omega)]
    unfold dataAt; rw [h k (by omega)]
/-- of n slots read of those left from p on: the transaction that stands there, and how many slots it takes -/
def stand (rd : Nat → ByteArray) (hm : Int → Bool) (p seq left : Nat) : Nat → Nat → Tx → Option (Tx × Nat)
  | 0, _, _ => none
  | f + 1, n, t =>
    if left ≤ n then none
    else if ¬ IsBlk (rd (p + n)) then none
    else
      let r := readR (rd (p + n))
      if r.seq ≠ seq ∨ r.kind = 1 then none
      else if r.kind = 4 then (if r.sum = moreV 0 (bytesOf rd p n) then some (t, n + 1) else none)
      else if ¬ (r.homes.all hm = true) then none
      else if r.kind = 3 then stand rd hm p seq left f (n + 1) { t with revokes := t.revokes ++ r.homes }
      else if left < n + 1 + r.homes.length then none
      else stand rd hm p seq left f (n + 1 + r.homes.length) { t with changes := t.changes ++ dataOf rd (p + n + 1) r r.homes.length }
theorem stand_bounds {rd : Nat → ByteArray} {hm : Int → Bool} {p seq left : Nat} : ∀ {f n : Nat} {t t' : Tx} {k : Nat}, stand rd hm p seq left f n t = some (t', k) → n < k ∧ k ≤ left
  | 0, n, t, t', k, h => by simp [stand] at h
  | f + 1, n, t, t', k, h => by
    unfold stand at h
    split at h
    · cases h
    · split at h
      · cases h
      · simp only at h
        split at h
        · cases h
        · split at h
          · split at h
            · cases h; omega
            · cases h
          · split at h
            · cases h
            · split at h
              · have := stand_bounds h; omega
              · split at h
                · cases h
                · have := stand_bounds h; omega
/-- what stands there is told by the slots left alone -/
theorem stand_congr {rd rd' : Nat → ByteArray} {hm : Int → Bool} {p seq left : Nat} (hr : ∀ i, i < left → rd (p + i) = rd' (p + i)) :
    ∀ (f n : Nat) (t : Tx), stand rd hm p seq left f n t = stand rd' hm p seq left f n t
  | 0, n, t => rfl
  | f + 1, n, t => by
    unfold stand
    by_cases h0 : left ≤ n
    · rw [if_pos h0, if_pos h0]
    · rw [if_neg h0, if_neg h0, hr n (by omega), bytesOf_congr (rd' := rd') fun i hi => hr i (by omega)]
      by_cases hl : left < n + 1 + (readR (rd' (p + n))).homes.length
      · simp only [if_pos hl, stand_congr hr f]
      · have e : dataOf rd (p + n + 1) (readR (rd' (p + n))) (readR (rd' (p + n))).homes.length = dataOf rd' (p + n + 1) (readR (rd' (p + n))) (readR (rd' (p + n))).homes.length :=
          dataOf_congr fun i hi => by
            have := hr (n + 1 + i) (by omega)
            rw [show p + (n + 1 + i) = p + n + 1 + i by omega] at this; exact this
        simp only [stand_congr hr f, e]
/-- more fuel than slots are left tells no more -/
theorem stand_fuel {rd : Nat → ByteArray} {hm : Int → Bool} {p seq left : Nat} : ∀ (f g n : Nat) (t : Tx), left ≤ n + f → left ≤ n + g → stand rd hm p seq left f n t = stand rd hm p seq left g n t
  | 0, 0, n, t, _, _ => rfl
  | 0, g + 1, n, t, h, _ => by
    unfold stand; rw [if_pos (by omega)]
  | f + 1, 0, n, t, _, h => by
    unfold stand; rw [if_pos (by omega)]
  | f + 1, g + 1, n, t, h1, h2 => by
    have e1 := fun t => stand_fuel (rd := rd) (hm := hm) (p := p) (seq := seq) (left := left) f g (n + 1) t (by omega) (by omega)
    have e2 := fun t => stand_fuel (rd := rd) (hm := hm) (p := p) (seq := seq) (left := left) f g (n + 1 + (readR (rd (p + n))).homes.length) t (by omega) (by omega)
    unfold stand
    simp only [e1, e2]
/-- the log from a place on: its transactions, and how many slots they take -/
def logFrom (rd : Nat → ByteArray) (hm : Int → Bool) (p seq slots : Nat) : Nat → Nat → List Tx → List Tx × Nat
  | 0, used, l => (l, used)
  | f + 1, used, l =>
    match stand rd hm (p + used) ((seq + l.length) % 18446744073709551616) (slots - used) (slots - used) 0 ⟨[], []⟩ with
    | none => (l, used)
    | some (t, k) => logFrom rd hm p seq slots f (used + k) (l ++ [t])
theorem logFrom_used {rd : Nat → ByteArray} {hm : Int → Bool} {p seq slots : Nat} : ∀ (f used : Nat) (l : List Tx), used ≤ slots → used ≤ (logFrom rd hm p seq slots f used l).2 ∧ (logFrom rd hm p seq slots f used l).2 ≤ slots
  | 0, used, l, h => ⟨Nat.le_refl _, h⟩
  | f + 1, used, l, h => by
    unfold logFrom
    split
    · exact ⟨Nat.le_refl _, h⟩
    · rename_i t k e
      have hb := stand_bounds e
      have := logFrom_used (rd := rd) (hm := hm) (p := p) (seq := seq) (slots := slots) f (used + k) (l ++ [t]) (by omega)
      omega

/-! ### what a record's block does to the reading -/
theorem stand_commit {rd : Nat → ByteArray} {hm : Int → Bool} {p seq left n f : Nat} {t : Tx} {r : Rec} (hr : rd (p + n) = blk r) (ho : RecOk r) (hf : Fits r) (hs : r.seq = seq) (hk : r.kind = 4) (hn : n < left)
    (hq : r.sum = moreV 0 (bytesOf rd p n)) : stand rd hm p seq left (f + 1) n t = some (t, n + 1) := by
  obtain ⟨h1, h2⟩ := isBlk_of ho hf
  unfold stand
  rw [hr, if_neg (by omega), if_neg (not_not_intro h1)]
  simp only [h2]
  rw [if_neg (by rw [hs, hk]; simp), if_pos hk, if_pos hq]
theorem stand_spoilt {rd : Nat → ByteArray} {hm : Int → Bool} {p seq left n f : Nat} {t : Tx} {r : Rec} (hr : rd (p + n) = blk r) (ho : RecOk r) (hf : Fits r) (hk : r.kind = 4)
    (hq : r.sum ≠ moreV 0 (bytesOf rd p n)) : stand rd hm p seq left (f + 1) n t = none := by
  obtain ⟨h1, h2⟩ := isBlk_of ho hf
  unfold stand
  split
  · rfl
  · rw [hr, if_neg (not_not_intro h1)]
    simp only [h2]
    split
    · rfl
    · simp [hk, hq]
theorem stand_revoke {rd : Nat → ByteArray} {hm : Int → Bool} {p seq left n f : Nat} {t : Tx} {r : Rec} (hr : rd (p + n) = blk r) (ho : RecOk r) (hf : Fits r) (hs : r.seq = seq) (hk : r.kind = 3) (hn : n < left)
    (hh : r.homes.all hm = true) : stand rd hm p seq left (f + 1) n t = stand rd hm p seq left f (n + 1) { t with revokes := t.revokes ++ r.homes } := by
  obtain ⟨h1, h2⟩ := isBlk_of ho hf
  conv => lhs; unfold stand
  rw [hr, if_neg (by omega), if_neg (not_not_intro h1)]
  simp only [h2]
  rw [if_neg (by rw [hs, hk]; simp), if_neg (by rw [hk]; decide), if_neg (not_not_intro hh), if_pos hk]
theorem stand_desc {rd : Nat → ByteArray} {hm : Int → Bool} {p seq left n f : Nat} {t : Tx} {r : Rec} (hr : rd (p + n) = blk r) (ho : RecOk r) (hf : Fits r) (hs : r.seq = seq) (hk : r.kind = 2) (hn : n + 1 + r.homes.length ≤ left)
    (hh : r.homes.all hm = true) : stand rd hm p seq left (f + 1) n t = stand rd hm p seq left f (n + 1 + r.homes.length) { t with changes := t.changes ++ dataOf rd (p + n + 1) r r.homes.length } := by
  obtain ⟨h1, h2⟩ := isBlk_of ho hf
  conv => lhs; unfold stand
  rw [hr, if_neg (by omega), if_neg (not_not_intro h1)]
  simp only [h2]
  rw [if_neg (by rw [hs, hk]; simp), if_neg (by rw [hk]; decide), if_neg (not_not_intro hh), if_neg (by rw [hk]; decide), if_neg (by omega)]
theorem stand_no {rd : Nat → ByteArray} {hm : Int → Bool} {p seq left n f : Nat} {t : Tx} (h : ¬ IsBlk (rd (p + n)) ∨ (readR (rd (p + n))).seq ≠ seq ∨ (readR (rd (p + n))).kind = 1) : stand rd hm p seq left f n t = none := by
  cases f with
  | zero => rfl
  | succ f =>
    unfold stand
    split
    · rfl
    · by_cases hb : IsBlk (rd (p + n))
      · rw [if_neg (not_not_intro hb)]
        simp only
        rw [if_pos (h.resolve_left (not_not_intro hb))]
      · rw [if_pos hb]

/-! ### what is written is read again -/
def Lies (rd : Nat → ByteArray) (q : Nat) (l : List ByteArray) : Prop := ∀ i (h : i < l.length), rd (q + i) = l[i]
theorem lies_append {rd : Nat → ByteArray} {q : Nat} {a b : List ByteArray} : Lies rd q (a ++ b) ↔ Lies rd q a ∧ Lies rd (q + a.length) b := by
  constructor
  · intro h
    refine ⟨fun i hi => ?_, fun i hi => ?_⟩
    · rw [h i (by rw [List.length_append]; omega), List.getElem_append_left hi]
    · have := h (a.length + i) (by rw [List.length_append]; omega)
      rw [List.getElem_append_right (by omega)] at this
      rw [Nat.add_assoc, this]; congr 1; omega
  · rintro ⟨h1, h2⟩ i hi
    rw [List.length_append] at hi
    by_cases hc : i < a.length
    · rw [List.getElem_append_left hc]; exact h1 i hc
    · rw [List.getElem_append_right (by omega), ← h2 (i - a.length) (by omega)]; congr 1; omega
theorem lies_cons {rd : Nat → ByteArray} {q : Nat} {x : ByteArray} {b : List ByteArray} : Lies rd q (x :: b) ↔ rd q = x ∧ Lies rd (q + 1) b := by
  rw [show x :: b = [x] ++ b from rfl, lies_append]
  constructor
  · rintro ⟨h1, h2⟩; exact ⟨h1 0 (by simp), h2⟩
  · rintro ⟨h1, h2⟩
    refine ⟨fun i hi => ?_, h2⟩
    obtain rfl : i = 0 := by simp at hi; omega
    exact h1
theorem homesOk_of {l : List Int} {most : Int} (hp : l.Pairwise (· < ·)) (hb : ∀ x ∈ l, 0 ≤ x ∧ x < 4096) (h1 : 1 ≤ l.length) (h2 : (l.length : Int) ≤ most) : HomesOk l most := by
  refine ⟨by omega, h2, fun j hj => ?_⟩
  unfold upAt
  have h3 := hb _ (List.getElem_mem hj)
  rw [hat_eq hj]
  unfold prevH
  split
  · omega
  · rename_i h0
    have h4 := List.pairwise_iff_getElem.1 hp (j - 1) j (by omega) hj (by omega)
    rw [hat_eq (by omega)]; omega
def revR (seq : Nat) (c : List Int) : Rec := ⟨3, seq, 0, c, [], 0⟩
def descR (seq : Nat) (g : List (Int × ByteArray)) : Rec := ⟨2, seq, 0, g.map Prod.fst, g.map (fun c => decide (Begins c.2)), 0⟩
def comR (seq sum : Nat) : Rec := ⟨4, seq, 0, [], [], sum⟩
def descB (seq : Nat) (g : List (Int × ByteArray)) : List ByteArray := blk (descR seq g) :: g.map (fun c => maskV c.2)
theorem homes_fit {l : List Int} {most : Int} (h : HomesOk l most) : ∀ x ∈ l, -9223372036854775808 ≤ x ∧ x ≤ 9223372036854775807 := by
  intro x hx
  obtain ⟨i, hi, rfl⟩ := List.getElem_of_mem hx
  have := ok_bounds h i hi; omega
theorem revR_ok {seq : Nat} {c : List Int} (hs : seq < 18446744073709551616) (h : HomesOk c 28) : RecOk (revR seq c) ∧ Fits (revR seq c) :=
  ⟨.inr (.inr (.inl ⟨rfl, h, rfl, rfl, rfl⟩)), ⟨by show (-9223372036854775808 : Int) ≤ 3 ∧ (3 : Int) ≤ _; omega, hs, by show (-9223372036854775808 : Int) ≤ 0 ∧ (0 : Int) ≤ _; omega, homes_fit h, by show 0 < 4294967296; omega⟩⟩
theorem descR_ok {seq : Nat} {g : List (Int × ByteArray)} (hs : seq < 18446744073709551616) (h : HomesOk (g.map Prod.fst) 24) : RecOk (descR seq g) ∧ Fits (descR seq g) :=
  ⟨.inr (.inl ⟨rfl, h, by show (g.map _).length = (g.map _).length; rw [List.length_map, List.length_map], rfl, rfl⟩), ⟨by show (-9223372036854775808 : Int) ≤ 2 ∧ (2 : Int) ≤ _; omega, hs, by show (-9223372036854775808 : Int) ≤ 0 ∧ (0 : Int) ≤ _; omega, homes_fit h, by show 0 < 4294967296; omega⟩⟩
theorem comR_ok {seq sum : Nat} (hs : seq < 18446744073709551616) (h : sum < 4294967296) : RecOk (comR seq sum) ∧ Fits (comR seq sum) :=
  ⟨.inr (.inr (.inr ⟨rfl, rfl, rfl, rfl⟩)), ⟨by show (-9223372036854775808 : Int) ≤ 4 ∧ (4 : Int) ≤ _; omega, hs, by show (-9223372036854775808 : Int) ≤ 0 ∧ (0 : Int) ≤ _; omega, fun x hx => absurd hx (by simp [comR]), h⟩⟩
theorem stand_revokes {rd : Nat → ByteArray} {hm : Int → Bool} {p seq left : Nat} (hs : seq < 18446744073709551616) :
    ∀ (cs : List (List Int)) (n f : Nat) (t : Tx), Lies rd (p + n) (cs.map fun c => blk (revR seq c)) → (∀ c ∈ cs, HomesOk c 28 ∧ c.all hm = true) → n + cs.length ≤ left →
      stand rd hm p seq left (cs.length + f) n t = stand rd hm p seq left f (n + cs.length) { t with revokes := t.revokes ++ cs.flatten }
  | [], n, f, t, _, _, _ => by simp
  | c :: cs, n, f, t, hl, hc, hn => by
    rw [List.map_cons, lies_cons] at hl
    obtain ⟨h1, h2⟩ := hc c (by simp)
    obtain ⟨ho, hf⟩ := revR_ok hs h1
    rw [List.length_cons] at hn ⊢
    rw [show cs.length + 1 + f = (cs.length + f) + 1 by omega, stand_revoke (seq := seq) hl.1 ho hf rfl rfl (by omega) h2,
      stand_revokes hs cs (n + 1) f _ (by rw [← Nat.add_assoc]; exact hl.2) (fun x hx => hc x (by simp [hx])) (by omega)]
    rw [show n + 1 + cs.length = n + (cs.length + 1) by omega, List.flatten_cons, ← List.append_assoc]
    rfl
theorem masked_back (s : ByteArray) : (if decide (Begins s) = true then unmaskV (maskV s) else maskV s) = s := by
  by_cases h : Begins s
  · rw [if_pos (decide_eq_true h)]
    unfold maskV
    rw [if_pos h]; exact mask_back h
  · rw [if_neg (by rw [decide_eq_false h]; decide)]
    unfold maskV
    rw [if_neg h]
theorem dataOf_back {rd : Nat → ByteArray} {q seq : Nat} {g : List (Int × ByteArray)} (hl : Lies rd q (g.map fun c => maskV c.2)) : dataOf rd q (descR seq g) g.length = g := by
  unfold dataOf
  apply List.ext_getElem
  · simp
  · intro i h1 h2
    rw [List.getElem_map, List.getElem_range]
    have h3 := hl i (by rw [List.length_map]; exact h2)
    rw [List.getElem_map] at h3
    unfold dataAt
    have e1 : hat (descR seq g).homes i = g[i].1 := by
      show hat (g.map Prod.fst) i = _
      rw [hat_eq (by rw [List.length_map]; exact h2), List.getElem_map]
    have e2 : ((descR seq g).masked[i]?).getD false = decide (Begins g[i].2) := by
      show ((g.map _)[i]?).getD false = _
      rw [List.getElem?_map, List.getElem?_eq_getElem h2]; rfl
    rw [e1, e2, h3, masked_back]
def sizeG (gs : List (List (Int × ByteArray))) : Nat := (gs.flatMap fun g => descB 0 g).length
theorem descB_length (seq : Nat) (g : List (Int × ByteArray)) : (descB seq g).length = 1 + g.length := by unfold descB; simp; omega
theorem sizeG_cons (g : List (Int × ByteArray)) (gs : List (List (Int × ByteArray))) : sizeG (g :: gs) = 1 + g.length + sizeG gs := by
  unfold sizeG; rw [List.flatMap_cons, List.length_append, descB_length]
theorem stand_descs {rd : Nat → ByteArray} {hm : Int → Bool} {p seq left : Nat} (hs : seq < 18446744073709551616) :
    ∀ (gs : List (List (Int × ByteArray))) (n f : Nat) (t : Tx), Lies rd (p + n) (gs.flatMap fun g => descB seq g) → (∀ g ∈ gs, HomesOk (g.map Prod.fst) 24 ∧ (g.map Prod.fst).all hm = true) → n + sizeG gs ≤ left →
      stand rd hm p seq left (gs.length + f) n t = stand rd hm p seq left f (n + sizeG gs) { t with changes := t.changes ++ gs.flatten }
  | [], n, f, t, _, _, _ => by simp [sizeG]
  | g :: gs, n, f, t, hl, hc, hn => by
    rw [List.flatMap_cons, lies_append, descB_length] at hl
    obtain ⟨hl1, hl2⟩ := hl
    unfold descB at hl1
    rw [lies_cons] at hl1
    obtain ⟨h1, h2⟩ := hc g (by simp)
    obtain ⟨ho, hf⟩ := descR_ok hs h1
    rw [sizeG_cons] at hn ⊢
    have hlen : (descR seq g).homes.length = g.length := by show (g.map _).length = _; rw [List.length_map]
    rw [List.length_cons, show gs.length + 1 + f = (gs.length + f) + 1 by omega, stand_desc (seq := seq) hl1.1 ho hf rfl rfl (by rw [hlen]; omega) h2, hlen, dataOf_back hl1.2,
      stand_descs hs gs (n + 1 + g.length) f _ (by rw [show p + (n + 1 + g.length) = p + n + (1 + g.length) by omega]; exact hl2) (fun x hx => hc x (by simp [hx])) (by omega)]
    rw [show n + 1 + g.length + sizeG gs = n + (1 + g.length + sizeG gs) by omega, List.flatten_cons, ← List.append_assoc]
theorem lies_bytes {rd : Nat → ByteArray} {p : Nat} : ∀ {l : List ByteArray}, Lies rd p l → bytesOf rd p l.length = l.flatMap fun b => b.data.toList
  | [], _ => rfl
  | x :: l, h => by
    rw [lies_cons] at h
    rw [List.length_cons, Nat.add_comm, bytesOf_add, lies_bytes h.2, List.flatMap_cons]
    congr 1
    rw [show (1 : Nat) = 0 + 1 from rfl, bytesOf_succ, bytesOf_zero, Nat.add_zero, h.1]; rfl
/-- a transaction's blocks but the last -/
def bodyOf (seq : Nat) (cs : List (List Int)) (gs : List (List (Int × ByteArray))) : List ByteArray := (cs.map fun c => blk (revR seq c)) ++ gs.flatMap fun g => descB seq g
theorem descs_length (seq : Nat) (gs : List (List (Int × ByteArray))) : (gs.flatMap fun g => descB seq g).length = sizeG gs := by
  induction gs with
  | nil => rfl
  | cons g gs ih => rw [List.flatMap_cons, List.length_append, descB_length, ih, sizeG_cons]
theorem bodyOf_length (seq : Nat) (cs : List (List Int)) (gs : List (List (Int × ByteArray))) : (bodyOf seq cs gs).length = cs.length + sizeG gs := by
  unfold bodyOf; rw [List.length_append, List.length_map, descs_length]
theorem sizeG_groups (gs : List (List (Int × ByteArray))) : gs.length ≤ sizeG gs := by
  induction gs with
  | nil => exact Nat.zero_le _
  | cons g gs ih => rw [sizeG_cons, List.length_cons]; omega
def sumOf (l : List ByteArray) : Nat := moreV 0 (l.flatMap fun b => b.data.toList)
theorem stand_body {rd : Nat → ByteArray} {hm : Int → Bool} {p seq left f : Nat} (hs : seq < 18446744073709551616) {cs : List (List Int)} {gs : List (List (Int × ByteArray))}
    (hl : Lies rd p (bodyOf seq cs gs)) (hc : ∀ c ∈ cs, HomesOk c 28 ∧ c.all hm = true) (hg : ∀ g ∈ gs, HomesOk (g.map Prod.fst) 24 ∧ (g.map Prod.fst).all hm = true) (hn : cs.length + sizeG gs ≤ left) :
    stand rd hm p seq left (cs.length + (gs.length + f)) 0 ⟨[], []⟩ = stand rd hm p seq left f (cs.length + sizeG gs) ⟨gs.flatten, cs.flatten⟩ := by
  unfold bodyOf at hl
  rw [lies_append, List.length_map] at hl
  rw [stand_revokes hs cs 0 (gs.length + f) _ hl.1 hc (by omega), stand_descs hs gs (0 + cs.length) f _ (by rw [Nat.zero_add]; exact hl.2) hg (by omega)]
  simp
/-- what Commit writes is the transaction that stands there -/
theorem stand_whole {rd : Nat → ByteArray} {hm : Int → Bool} {p seq left : Nat} (hs : seq < 18446744073709551616) {cs : List (List Int)} {gs : List (List (Int × ByteArray))}
    (hl : Lies rd p (bodyOf seq cs gs ++ [blk (comR seq (sumOf (bodyOf seq cs gs)))])) (hc : ∀ c ∈ cs, HomesOk c 28 ∧ c.all hm = true) (hg : ∀ g ∈ gs, HomesOk (g.map Prod.fst) 24 ∧ (g.map Prod.fst).all hm = true)
    (hn : cs.length + sizeG gs + 1 ≤ left) : stand rd hm p seq left left 0 ⟨[], []⟩ = some (⟨gs.flatten, cs.flatten⟩, cs.length + sizeG gs + 1) := by
  rw [lies_append, bodyOf_length, lies_cons] at hl
  obtain ⟨h1, h2, _⟩ := hl
  have hg1 := sizeG_groups gs
  obtain ⟨f, hf⟩ : ∃ f, left = cs.length + (gs.length + (f + 1)) := ⟨left - cs.length - gs.length - 1, by omega⟩
  have hb := stand_body (left := left) (f := f + 1) hs h1 hc hg (by omega)
  rw [← hf] at hb
  obtain ⟨ho, hfi⟩ := comR_ok (seq := seq) (sum := sumOf (bodyOf seq cs gs)) hs (moreV_lt _ _ (by omega))
  rw [hb, stand_commit (seq := seq) h2 ho hfi rfl rfl (by omega) (by rw [← bodyOf_length seq cs gs, lies_bytes h1]; rfl)]
/-- without its last block no transaction stands there: the block behind is no record of that number -/
theorem stand_part {rd : Nat → ByteArray} {hm : Int → Bool} {p seq left : Nat} (hs : seq < 18446744073709551616) {cs : List (List Int)} {gs : List (List (Int × ByteArray))}
    (hl : Lies rd p (bodyOf seq cs gs)) (hc : ∀ c ∈ cs, HomesOk c 28 ∧ c.all hm = true) (hg : ∀ g ∈ gs, HomesOk (g.map Prod.fst) 24 ∧ (g.map Prod.fst).all hm = true)
    (hn : cs.length + sizeG gs ≤ left) (hx : ¬ IsBlk (rd (p + (cs.length + sizeG gs))) ∨ (readR (rd (p + (cs.length + sizeG gs)))).seq ≠ seq ∨ (readR (rd (p + (cs.length + sizeG gs)))).kind = 1) :
    stand rd hm p seq left left 0 ⟨[], []⟩ = none := by
  have hg1 := sizeG_groups gs
  obtain ⟨f, hf⟩ : ∃ f, left = cs.length + (gs.length + f) := ⟨left - cs.length - gs.length, by omega⟩
  have hb := stand_body (left := left) (f := f) hs hl hc hg hn
  rw [← hf] at hb
  rw [hb, stand_no hx]

/-! ### groups -/
def chunksF {α : Type} (k : Nat) : Nat → List α → List (List α)
  | 0, _ => []
  | _ + 1, [] => []
  | f + 1, a :: l => (a :: l).take k :: chunksF k f ((a :: l).drop k)
def chunks {α : Type} (k : Nat) (l : List α) : List (List α) := chunksF k l.length l
theorem chunksF_join {α : Type} {k : Nat} (hk : 0 < k) : ∀ (f : Nat) (l : List α), l.length ≤ f → (chunksF k f l).flatten = l
  | 0, [], _ => rfl
  | 0, a :: l, h => by simp at h
  | f + 1, [], _ => rfl
  | f + 1, a :: l, h => by
    unfold chunksF
    rw [List.flatten_cons, chunksF_join hk f _ (by rw [List.length_drop]; simp at h ⊢; omega), List.take_append_drop]
theorem chunks_join {α : Type} {k : Nat} (hk : 0 < k) (l : List α) : (chunks k l).flatten = l := chunksF_join hk _ l (Nat.le_refl _)
theorem chunksF_each {α : Type} {k : Nat} (hk : 0 < k) : ∀ (f : Nat) (l : List α), ∀ c ∈ chunksF k f l, 1 ≤ c.length ∧ c.length ≤ k ∧ c.Sublist l
  | 0, l, c, h => by simp [chunksF] at h
  | f + 1, [], c, h => by simp [chunksF] at h
  | f + 1, a :: l, c, h => by
    unfold chunksF at h
    rcases List.mem_cons.1 h with h | h
    · subst h
      refine ⟨?_, ?_, List.take_sublist _ _⟩
      · rw [List.length_take, List.length_cons]; omega
      · rw [List.length_take]; omega
    · obtain ⟨h1, h2, h3⟩ := chunksF_each hk f _ c h
      exact ⟨h1, h2, h3.trans (List.drop_sublist _ _)⟩
theorem chunks_homes {l : List Int} {k : Nat} (hk : 0 < k) (hp : l.Pairwise (· < ·)) (hb : ∀ x ∈ l, 0 ≤ x ∧ x < 4096) {hm : Int → Bool} (hh : ∀ x ∈ l, hm x = true) :
    ∀ c ∈ chunks k l, HomesOk c (k : Int) ∧ c.all hm = true := by
  intro c hc
  obtain ⟨h1, h2, h3⟩ := chunksF_each hk _ l c hc
  exact ⟨homesOk_of (hp.sublist h3) (fun x hx => hb x (h3.subset hx)) h1 (by omega), List.all_eq_true.2 fun x hx => hh x (h3.subset hx)⟩
theorem chunks_changes {l : List (Int × ByteArray)} {k : Nat} (hk : 0 < k) (hp : (l.map Prod.fst).Pairwise (· < ·)) (hb : ∀ x ∈ l, 0 ≤ x.1 ∧ x.1 < 4096) {hm : Int → Bool} (hh : ∀ x ∈ l, hm x.1 = true) :
    ∀ c ∈ chunks k l, HomesOk (c.map Prod.fst) (k : Int) ∧ (c.map Prod.fst).all hm = true := by
  intro c hc
  obtain ⟨h1, h2, h3⟩ := chunksF_each hk _ l c hc
  have h4 := h3.map Prod.fst
  refine ⟨homesOk_of (hp.sublist h4) (fun x hx => ?_) (by rw [List.length_map]; exact h1) (by rw [List.length_map]; omega), List.all_eq_true.2 fun x hx => ?_⟩
  · obtain ⟨y, hy, rfl⟩ := List.mem_map.1 hx; exact hb y (h3.subset hy)
  · obtain ⟨y, hy, rfl⟩ := List.mem_map.1 hx; exact hh y (h3.subset hy)
end Go.Proofs.YtanghmogeiiooaaGreatDoor
