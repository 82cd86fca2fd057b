import Derived.Below
import Derived.Deep.Slices
import Derived.Deep.Fields
import Derived.WideShapes
import Derived.ProofKit
import Derived.Lib.Hide
import Derived.Laws.Bits64b
import Derived.Test.YtanghmogeiiooaaGreatDoorRows
import Derived.WalkKit
import Derived.WalkSpells
import Derived.WalkLawsBesides
set_option linter.unusedVariables false
set_option linter.unusedSimpArgs false
set_option linter.constructorNameAsVariable false
/- Slices that are read: rows of cells in memory; an argument that is one, opened. For whatever program. -/
namespace Go.Proofs.YtanghmogeiiooaaGreatDoor
set_option linter.unusedVariables false
open Go.ChangeShapes Go.WideShapes Go.RowKit

/-- the lists C 0, .. one behind the other -/
def flat {α : Type} (C : Nat → List α) : Nat → List α
  | 0 => []
  | n + 1 => flat C n ++ C n
theorem flat_length {α : Type} {C : Nat → List α} {z : Nat} : ∀ {n : Nat}, (∀ i < n, (C i).length = z) → (flat C n).length = n * z
  | 0, _ => by show (0 : Nat) = _; omega
  | n + 1, h => by rw [flat, List.length_append, flat_length fun i hi => h i (by omega), h n (by omega), Nat.add_mul]; omega
theorem flat_at {α : Type} {C : Nat → List α} {z : Nat} : ∀ {n : Nat}, (∀ i < n, (C i).length = z) → ∀ {i}, i < n → ∀ {j}, j < z → (flat C n)[i * z + j]? = (C i)[j]?
  | 0, _, i, hi, _, _ => by omega
  | n + 1, h, i, hi, j, hj => by
    have hs := flat_length (n := n) fun i hi => h i (by omega)
    by_cases e : i = n
    · subst e
      rw [flat, List.getElem?_append_right (by omega), hs, show i * z + j - i * z = j by omega]
    · have hle : (i + 1) * z ≤ n * z := Nat.mul_le_mul_right z (by omega)
      have hz : (i + 1) * z = i * z + z := by rw [Nat.add_mul]; omega
      rw [flat, List.getElem?_append_left (by omega)]
      exact flat_at (fun i hi => h i (by omega)) (by omega) hj
theorem flat_part {α : Type} {C : Nat → List α} {z n : Nat} (h : ∀ i < n, (C i).length = z) {i : Nat} (hi : i < n) : ((flat C n).drop (i * z)).take z = C i := by
  have hs := flat_length h
  have hle : (i + 1) * z ≤ n * z := Nat.mul_le_mul_right z (by omega)
  have hz : (i + 1) * z = i * z + z := by rw [Nat.add_mul]; omega
  apply List.ext_getElem?
  intro j
  by_cases hj : j < z
  · rw [List.getElem?_take_of_lt hj, List.getElem?_drop]
    exact flat_at h hi hj
  · rw [List.getElem?_eq_none (by rw [List.length_take]; omega), List.getElem?_eq_none (by rw [h i hi]; omega)]

/-- v is a slice of n elements of z cells each, which hold cs, wherever they lie -/
def RowIn (z : Nat) (v : Value) (n : Nat) (cs : List Value) (w : World) : Prop :=
  cs.length = n * z ∧ ∃ (ad : Option Addr) (cap : Nat), v = .slice ad n cap ∧ n ≤ cap ∧ cap ≤ maxLen ∧
    (0 < cs.length → ∃ g o, ad = some ⟨g, o, none⟩ ∧ g < w.heap.size ∧ ∀ k u, cs[k]? = some u → w.cell? ⟨g, o + k, none⟩ = some u) ∧ (ad = none → cap = 0)
theorem RowIn.kept {z n : Nat} {v : Value} {cs : List Value} {w w' : World} (h : RowIn z v n cs w) (hb : Below w.heap.size w w') : RowIn z v n cs w' := by
  obtain ⟨h0, ad, cap, rfl, h1, h2, h3, h4⟩ := h
  refine ⟨h0, ad, cap, rfl, h1, h2, fun hp => ?_, h4⟩
  obtain ⟨g, o, rfl, hg, hc⟩ := h3 hp
  exact ⟨g, o, rfl, Nat.lt_of_lt_of_le hg hb.size, fun k u hk => (hb.cell (p := ⟨g, o + k, none⟩) hg).trans (hc k u hk)⟩
theorem RowIn.nil (z : Nat) (w : World) : RowIn z (.slice none 0 0) 0 [] w := ⟨by simp, none, 0, rfl, Nat.le_refl _, by unfold maxLen; omega, fun h => by simp at h, fun _ => rfl⟩
/-- its value's shape, and its cells -/
theorem RowIn.shape {z n : Nat} {v : Value} {cs : List Value} {w : World} (h : RowIn z v n cs w) : ∃ ad cap, v = .slice ad n cap ∧ n ≤ cap ∧ cap ≤ 9223372036854775807 ∧
    (0 < cs.length → ∃ g o, ad = some ⟨g, o, none⟩ ∧ g < w.heap.size ∧ ∀ k u, cs[k]? = some u → w.cell? ⟨g, o + k, none⟩ = some u) ∧ (ad = none → cap = 0) := by
  obtain ⟨_, ad, cap, rfl, h1, h2, h3, h4⟩ := h
  exact ⟨ad, cap, rfl, h1, by unfold maxLen at h2; omega, h3, h4⟩

theorem cell_flat {w : World} {a : Addr} {v : Value} (h : w.cell? a = some v) : a.spot = none ∧ a.block < w.heap.size := by
  unfold World.cell? at h
  cases hb : w.heap[a.block]? with
  | none => rw [hb] at h; cases h
  | some o =>
    have hlt := (Array.getElem?_eq_some_iff.1 hb).1
    rw [hb] at h
    cases o with
    | cells c e f =>
      simp only at h
      cases hs : a.spot with
      | none => exact ⟨rfl, hlt⟩
      | some x => rw [hs] at h; simp at h
    | _ => cases h

section
variable {H : Type} {enc : TypeId × Value → H} {P : Program} {w : World} {held : Bool}
theorem open_row_cell {t e : TypeId} (ht : P.underlying t = some (.slice e)) {fuel : Nat} {v : Value} {y : DataW H × List MemPlace}
    (h : DataW.trod enc P w 0 (fun _ => true) held fuel t [v] = some y) :
    ∃ n cs, RowIn (P.cellsOf e) v n cs w ∧ ∀ i < n, ∃ m x, DataW.trod enc P w 0 (fun _ => true) held m e ((cs.drop (i * P.cellsOf e)).take (P.cellsOf e)) = some x := by
  rcases Deep.open_slice ht h with ⟨hcs, _⟩ | ⟨a, len, cap, m, n, D, Pl, hcs, _, hl, hm, hmm, _, hx⟩
  · simp only [List.cons.injEq, and_true] at hcs
    subst hcs
    exact ⟨0, [], RowIn.nil _ w, fun i hi => by omega⟩
  · simp only [List.cons.injEq, and_true] at hcs
    subst hcs
    have hmc : len ≤ m := by rw [hmm]; split <;> omega
    have each : ∀ i, i < len → ∃ cs', w.cells? 0 (a.add (i * P.cellsOf e)) (P.cellsOf e) = some cs' ∧ DataW.trod enc P w 0 (fun _ => true) held n e cs' = some (D i, Pl i) := fun i hi => hx i (by omega)
    obtain ⟨C, hC⟩ := Deep.choose_lt each
    have hlen : ∀ i < len, (C i).length = P.cellsOf e := fun i hi => (World.cells?_some (hC i hi).1).2.1
    have hcell : ∀ i < len, ∀ j, j < P.cellsOf e → w.cell? (a.add (i * P.cellsOf e + j)) = (C i)[j]? := fun i hi j hj => by
      have := (World.cells?_some (hC i hi).1).2.2 j hj
      rw [Deep.add_add] at this; exact this
    refine ⟨len, flat C len, ⟨flat_length hlen, some a, cap, rfl, hl, hm, fun hp => ?_, fun h => by cases h⟩, fun i hi => ?_⟩
    · rw [flat_length hlen] at hp
      have hz : 0 < P.cellsOf e := by
        rcases Nat.eq_zero_or_pos (P.cellsOf e) with h0 | h0
        · rw [h0] at hp; simp at hp
        · exact h0
      have hl0 : 0 < len := by
        rcases Nat.eq_zero_or_pos len with h0 | h0
        · rw [h0] at hp; simp at hp
        · exact h0
      obtain ⟨g, o, sp⟩ := a
      have h0 := hcell 0 hl0 0 hz
      rw [List.getElem?_eq_getElem (by rw [hlen 0 hl0]; exact hz)] at h0
      have e0 : (Addr.add ⟨g, o, sp⟩ (0 * P.cellsOf e + 0)) = ⟨g, o, sp⟩ := by simp [Addr.add]
      rw [e0] at h0
      obtain ⟨hs, hg⟩ := cell_flat h0
      have hs : sp = none := hs
      subst hs
      have add1 : ∀ j, (Addr.add ⟨g, o, none⟩ j) = ⟨g, o + j, none⟩ := fun j => by unfold Addr.add; split <;> simp_all
      refine ⟨g, o, rfl, hg, fun k u hk => ?_⟩
      have hkl : k < len * P.cellsOf e := by
        have := (List.getElem?_eq_some_iff.1 hk).1
        rwa [flat_length hlen] at this
      have hi : k / P.cellsOf e < len := Nat.div_lt_of_lt_mul (by rw [Nat.mul_comm]; exact hkl)
      have hj : k % P.cellsOf e < P.cellsOf e := Nat.mod_lt _ hz
      have hk2 : k / P.cellsOf e * P.cellsOf e + k % P.cellsOf e = k := by rw [Nat.mul_comm]; exact Nat.div_add_mod _ _
      have h3 := hcell _ hi _ hj
      rw [hk2, add1] at h3
      rw [h3, ← flat_at hlen hi hj, hk2]; exact hk
    · rw [flat_part hlen hi]
      exact ⟨n, _, (hC i hi).2⟩
theorem open_row {r : Reach} {b0 : Nat} {t e : TypeId} {v : Value} {d : DataW H} {p : List MemPlace} (ht : P.underlying t = some (.slice e)) (hv : Value.okWide P w r b0 t v)
    (h : DataW.Trod enc P w 0 (fun _ => true) held t v d p) :
    ∃ n cs, RowIn (P.cellsOf e) v n cs w ∧ ∀ i < n, ∃ m x, DataW.trod enc P w 0 (fun _ => true) held m e ((cs.drop (i * P.cellsOf e)).take (P.cellsOf e)) = some x := by
  obtain ⟨a0, len, cap, rfl⟩ := okWide_slice ht hv
  obtain ⟨fuel, hf⟩ := h
  exact open_row_cell ht (by simpa [Value.cells] using hf)

/-- the one cell of element i -/
theorem one_of {cs : List Value} {i : Nat} (h : i < cs.length) : (cs.drop (i * 1)).take 1 = [cs[i]] := by
  rw [Nat.mul_one, List.drop_eq_getElem_cons h]; rfl
/-- a list of cells, each of which is f of something, is the map of a list -/
theorem map_of {α : Type} [Inhabited α] (f : α → Value) (q : α → Prop) : ∀ (cs : List Value), (∀ i (h : i < cs.length), ∃ x, cs[i] = f x ∧ q x) → ∃ l : List α, cs = l.map f ∧ ∀ x ∈ l, q x
  | [], _ => ⟨[], rfl, fun x hx => by simp at hx⟩
  | c :: cs, h => by
    obtain ⟨x, hx, hq⟩ := h 0 (by simp)
    obtain ⟨l, hl, hm⟩ := map_of f q cs fun i hi => h (i + 1) (by simpa using hi)
    refine ⟨x :: l, by rw [List.map_cons, ← hl]; exact congrArg (· :: cs) hx, fun y hy => ?_⟩
    rcases List.mem_cons.1 hy with rfl | hy
    · exact hq
    · exact hm y hy
theorem open_bools_cell {t e : TypeId} (ht : P.underlying t = some (.slice e)) (he : P.underlying e = some .bool) (ce : P.cellsOf e = 1) {fuel : Nat} {v : Value} {y : DataW H × List MemPlace}
    (h : DataW.trod enc P w 0 (fun _ => true) held fuel t [v] = some y) : ∃ l : List Bool, RowIn 1 v l.length (l.map Value.bool) w := by
  obtain ⟨n, cs, hr, hi⟩ := open_row_cell ht h
  rw [ce] at hr hi
  have hn : cs.length = n := by rw [hr.1, Nat.mul_one]
  obtain ⟨l, rfl, _⟩ := map_of Value.bool (fun _ => True) cs fun i h => by
    obtain ⟨m, x, hx⟩ := hi i (by omega)
    rw [one_of h] at hx
    obtain ⟨b, hb, _⟩ := DataW.trod_bool he hx
    exact ⟨b, by simpa using hb, trivial⟩
  rw [List.length_map] at hn
  exact ⟨l, hn ▸ hr⟩
theorem open_ints_cell {t e : TypeId} {k : IntKind} (ht : P.underlying t = some (.slice e)) (he : P.underlying e = some (.int k)) (ce : P.cellsOf e = 1) {fuel : Nat} {v : Value} {y : DataW H × List MemPlace}
    (h : DataW.trod enc P w 0 (fun _ => true) held fuel t [v] = some y) : ∃ l : List Int, RowIn 1 v l.length (l.map (Value.int k)) w ∧ ∀ x ∈ l, (Lit.int k x).wf = true := by
  obtain ⟨n, cs, hr, hi⟩ := open_row_cell ht h
  rw [ce] at hr hi
  have hn : cs.length = n := by rw [hr.1, Nat.mul_one]
  obtain ⟨l, rfl, hq⟩ := map_of (Value.int k) (fun x => (Lit.int k x).wf = true) cs fun i h => by
    obtain ⟨m, x, hx⟩ := hi i (by omega)
    rw [one_of h] at hx
    obtain ⟨b, hb, _, hw⟩ := DataW.trod_int he hx
    exact ⟨b, by simpa using hb, hw⟩
  rw [List.length_map] at hn
  exact ⟨l, hn ▸ hr, hq⟩
theorem open_strs_cell {t e : TypeId} (ht : P.underlying t = some (.slice e)) (he : P.underlying e = some .string) (ce : P.cellsOf e = 1) {fuel : Nat} {v : Value} {y : DataW H × List MemPlace}
    (h : DataW.trod enc P w 0 (fun _ => true) held fuel t [v] = some y) : ∃ l : List ByteArray, RowIn 1 v l.length (l.map Value.string) w ∧ ∀ x ∈ l, x.size ≤ maxLen := by
  obtain ⟨n, cs, hr, hi⟩ := open_row_cell ht h
  rw [ce] at hr hi
  have hn : cs.length = n := by rw [hr.1, Nat.mul_one]
  obtain ⟨l, rfl, hq⟩ := map_of Value.string (fun x => x.size ≤ maxLen) cs fun i h => by
    obtain ⟨m, x, hx⟩ := hi i (by omega)
    rw [one_of h] at hx
    obtain ⟨b, hb, _, hw⟩ := DataW.trod_string he hx
    exact ⟨b, by simpa using hb, hw⟩
  rw [List.length_map] at hn
  exact ⟨l, hn ▸ hr, hq⟩

/-- a struct of six fields, of one cell each: each field's cell, with its reading -/
theorem open_fields {e : TypeId} {fs : Array Field} (he : P.underlying e = some (.struct fs)) (hone : Deep.oneCellFields P fs = true) {fuel : Nat} {cs : List Value} {y : DataW H × List MemPlace}
    (h : DataW.trod enc P w 0 (fun _ => true) held fuel e cs = some y) (hc : cs.length = fs.size) :
    ∀ j (hj : j < fs.size), ∃ m x, DataW.trod enc P w 0 (fun _ => true) held m (fs[j]).type [cs[j]'(by omega)] = some x := by
  obtain ⟨xs, n, _, _, _, hlen, hr⟩ := DataW.trod_struct he h
  intro j hj
  have hfj : fs[j]? = some fs[j] := Array.getElem?_eq_getElem hj
  obtain ⟨o, c⟩ := Deep.hone_of hone j _ hfj
  have hq := hr j _ hfj
  rw [o, c, List.getElem?_eq_getElem (show j < xs.length by omega)] at hq
  have := one_of (cs := cs) (i := j) (by omega)
  rw [Nat.mul_one] at this
  rw [this] at hq
  exact ⟨n, _, hq⟩
end
end Go.Proofs.YtanghmogeiiooaaGreatDoor

/- Plain facts on numbers written as bytes, the lowest byte first: no program is named here. -/
namespace Go.Proofs.YtanghmogeiiooaaGreatDoor

/-- the number of bytes l, the lowest first -/
def leN : List UInt8 → Nat
  | [] => 0
  | c :: r => c.toNat + 256 * leN r
/-- the k lowest bytes of n -/
def leB : Nat → Nat → List UInt8
  | 0, _ => []
  | k + 1, n => UInt8.ofNat n :: leB k (n / 256)

theorem leB_length (k n : Nat) : (leB k n).length = k := by
  induction k generalizing n with
  | zero => rfl
  | succ k ih => simp [leB, ih]

theorem leN_lt (l : List UInt8) : leN l < 256 ^ l.length := by
  induction l with
  | nil => simp [leN]
  | cons c r ih => have := c.toNat_lt; simp only [leN, List.length_cons, Nat.pow_succ]; omega

theorem leN_append (a b : List UInt8) : leN (a ++ b) = leN a + 256 ^ a.length * leN b := by
  induction a with
  | nil => simp [leN]
  | cons c r ih =>
    simp only [List.cons_append, leN, ih, List.length_cons, Nat.pow_succ, Nat.mul_add]
    rw [Nat.mul_right_comm]; omega

theorem leN_leB (k n : Nat) : leN (leB k n) = n % 256 ^ k := by
  induction k generalizing n with
  | zero => simp [leN, leB]; omega
  | succ k ih =>
    simp only [leN, leB, ih]
    have h1 : (UInt8.ofNat n).toNat = n % 256 := by simp
    rw [h1, Nat.pow_succ, Nat.mul_comm (256 ^ k) 256, Nat.mod_mul]

theorem leB_leN (l : List UInt8) : leB l.length (leN l) = l := by
  induction l with
  | nil => rfl
  | cons c r ih =>
    have hc := c.toNat_lt
    simp only [leN, leB, List.length_cons]
    have h1 : (c.toNat + 256 * leN r) / 256 = leN r := by omega
    rw [h1, ih]
    congr 1
    apply UInt8.toNat_inj.1
    simp

theorem leB_mod (k n : Nat) : leB k (n % 256 ^ k) = leB k n := by
  have := leB_leN (leB k n)
  rw [leB_length, leN_leB] at this
  exact this

theorem leB_succ_snoc (k n : Nat) : leB (k + 1) n = leB k n ++ [UInt8.ofNat (n / 256 ^ k)] := by
  induction k generalizing n with
  | zero => simp [leB]
  | succ k ih =>
    rw [show leB (k + 1 + 1) n = UInt8.ofNat n :: leB (k + 1) (n / 256) from rfl, ih]
    rw [show leB (k + 1) n = UInt8.ofNat n :: leB k (n / 256) from rfl]
    rw [Nat.div_div_eq_div_mul, Nat.pow_succ, Nat.mul_comm 256]
    rfl

/-- the field of z bytes at a -/
def fieldAt (s : ByteArray) (a z : Nat) : List UInt8 := (s.data.toList.drop a).take z

theorem fieldAt_length (s : ByteArray) (a z : Nat) (h : a + z ≤ s.size) : (fieldAt s a z).length = z := by
  have e : s.data.toList.length = s.size := rfl
  unfold fieldAt
  rw [List.length_take, List.length_drop, e]; omega

theorem fieldAt_succ (s : ByteArray) (a k : Nat) (h : a + k < s.size) : fieldAt s a (k + 1) = fieldAt s a k ++ [s[a + k]] := by
  have e : s.data.toList.length = s.size := rfl
  have hl : k < (s.data.toList.drop a).length := by rw [List.length_drop, e]; omega
  unfold fieldAt
  rw [List.take_succ_eq_append_getElem hl]
  congr 2
  simp; rfl

theorem fieldAt_drop (s : ByteArray) (a z k : Nat) (hk : k < z) (h : a + z ≤ s.size) : (fieldAt s a z).drop k = s[a + k] :: (fieldAt s a z).drop (k + 1) := by
  have hl : k < (fieldAt s a z).length := by rw [fieldAt_length s a z h]; exact hk
  rw [List.drop_eq_getElem_cons hl]
  congr 1
  simp [fieldAt]; rfl

theorem or_step (n k : Nat) (c : Nat) (hk : k < 8) (hn : n < 256 ^ k) (hc : c < 256) :
    bits .or .u64 (n : Int) (IntKind.u64.wrap (IntKind.u64.wrap (c : Int) * 2 ^ (8 * k))) = ((n + 256 ^ k * c : Nat) : Int) := by
  have e : (256 : Nat) ^ k = 2 ^ (8 * k) := by rw [Nat.pow_mul]
  have h1 : IntKind.u64.wrap (c : Int) = c := by rw [IntKind.wrap_u64]; omega
  have hp : (2 : Nat) ^ (8 * k) ≤ 2 ^ 56 := Nat.pow_le_pow_right (by decide) (by omega)
  have hm : 2 ^ (8 * k) * c < 18446744073709551616 := by
    have h1 : 2 ^ (8 * k) * c ≤ 2 ^ 56 * 255 := Nat.mul_le_mul hp (by omega)
    have h2 : (2 : Nat) ^ 56 * 255 = 18374686479671623680 := by decide
    omega
  have h2 : IntKind.u64.wrap ((c : Int) * 2 ^ (8 * k)) = ((2 ^ (8 * k) * c : Nat) : Int) := by
    have e2 : (c : Int) * 2 ^ (8 * k) = ((2 ^ (8 * k) * c : Nat) : Int) := by
      rw [Int.natCast_mul, Int.natCast_pow, Int.mul_comm]; rfl
    rw [e2, IntKind.wrap_u64]
    generalize 2 ^ (8 * k) * c = m at hm
    omega
  have hn' : n < 2 ^ (8 * k) := by rw [← e]; exact hn
  rw [h1, h2, bits_or_u64_nat n _ (by omega) hm, Nat.or_comm, ← Nat.two_pow_add_eq_or_of_lt hn' c, e, Nat.add_comm]

end Go.Proofs.YtanghmogeiiooaaGreatDoor

/- The contracts of package words: what each of its functions answers, for every text of at most maxLen bytes. -/
namespace Go.Proofs.YtanghmogeiiooaaGreatDoor
open Go.RowKit

/-- does a field of z bytes at a lie in len bytes? -/
def fieldOk (len : Nat) (a z : Int) : Bool := decide ((z = 1 ∨ z = 2 ∨ z = 4 ∨ z = 8) ∧ 0 ≤ a ∧ a ≤ len - z)

theorem fieldOk_no {len : Nat} {a z : Int} (h : ¬ (z = 1 ∨ z = 2 ∨ z = 4 ∨ z = 8)) : fieldOk len a z = false := by
  unfold fieldOk; rw [decide_eq_false]; intro k; exact h k.1

set_option maxHeartbeats 400000 in
theorem valid_any (s : ByteArray) (hs : s.size ≤ maxLen) (a z : Int) (w : World) :
    Calls Tryz.prog 139 #[.string s, .int .i64 a, .int .i64 z] w fun e w' => e = .returned (.bool (fieldOk s.size a z)) ∧ w = w' := by
  unfold maxLen at hs
  by_cases hz : z = 1 ∨ z = 2 ∨ z = 4 ∨ z = 8
  · rcases hz with rfl | rfl | rfl | rfl
    all_goals
      go_enter Tryz.func139, Tryz.ntmps139
      go_wp2
      all_goals go_ret
      all_goals refine ⟨?_, rfl⟩
      all_goals simp [fieldOk]; try omega
  · have h1 : (z == 1) = false := by simp; omega
    have h2 : (z == 2) = false := by simp; omega
    have h4 : (z == 4) = false := by simp; omega
    have h8 : (z == 8) = false := by simp; omega
    rw [fieldOk_no hz]
    go_enter Tryz.func139, Tryz.ntmps139
    go_wp2
    go_ret
    exact ⟨rfl, rfl⟩

end Go.Proofs.YtanghmogeiiooaaGreatDoor

/- The contracts of words.Get and of the document's Get, and of their twins for ints. -/
namespace Go.Proofs.YtanghmogeiiooaaGreatDoor
open Go.RowKit

theorem leN_snoc (s : ByteArray) (a k : Nat) (h : a + k < s.size) : leN (fieldAt s a (k + 1)) = leN (fieldAt s a k) + 256 ^ k * s[a + k].toNat := by
  rw [fieldAt_succ s a k h, leN_append, fieldAt_length s a k (by omega)]; simp [leN]

theorem leN_cons (s : ByteArray) (a z k : Nat) (hk : k < z) (h : a + z ≤ s.size) : leN ((fieldAt s a z).drop k) = leN ((fieldAt s a z).drop (k + 1)) * 256 + s[a + k].toNat := by
  rw [fieldAt_drop s a z k hk h]; simp only [leN]; omega

theorem fieldOk_yes {len : Nat} {a z : Int} (h : fieldOk len a z = true) : ∃ (b y : Nat), a = b ∧ z = y ∧ (y = 1 ∨ y = 2 ∨ y = 4 ∨ y = 8) ∧ b + y ≤ len := by
  unfold fieldOk at h
  simp at h
  exact ⟨a.toNat, z.toNat, by omega, by omega, by omega, by omega⟩

set_option maxHeartbeats 400000 in
theorem get_yes (s : ByteArray) (hs : s.size ≤ maxLen) (a z : Nat) (hz : z = 1 ∨ z = 2 ∨ z = 4 ∨ z = 8) (ha : a + z ≤ s.size) (w : World) :
    Calls Tryz.prog 122 #[.string s, .int .i64 a, .int .i64 z] w fun e w' => e = .returned (.tuple #[.int .u64 (leN (fieldAt s a z)), .bool true]) ∧ w = w' := by
  have hok : fieldOk s.size a z = true := by unfold fieldOk; simp; omega
  have hv := valid_any s hs a z
  rw [hok] at hv
  have HV := Lib.hid hv
  clear hv hok
  unfold maxLen at hs
  go_enter Tryz.func122, Tryz.ntmps122
  go_wp2_with (go_at_call 139; refine (HV.out _).mono ?_; rintro e w' ⟨rfl, rfl⟩)
  go_loop [8, 16] (fun n i => ∃ k : Nat, k ≤ z ∧ i = .int .i64 k ∧ n = .int .u64 (leN (fieldAt s a k))) (fun _ i => z - (intOf i).toNat)
  case atStart => exact ⟨0, Nat.zero_le _, rfl, rfl⟩
  case round =>
    obtain ⟨k, hk, rfl, rfl⟩ := hrel
    by_cases hlt : k < z
    · have h1 := leN_snoc s a k (by omega)
      have h2 := leN_lt (fieldAt s a k)
      rw [fieldAt_length s a k (by omega)] at h2
      have h3 := or_step _ k (s[a + k]'(by omega)).toNat (by omega) h2 (UInt8.toNat_lt _)
      rw [← h1] at h3
      have H3 := Lib.hid h3
      clear h1 h2 h3
      go_wp2
      exact ⟨⟨k + 1, by omega, by go_num, by rw [H3.out]⟩, by simp [intOf]; omega⟩
    · obtain rfl : k = z := by omega
      go_wp2
      go_ret2
      exact ⟨rfl, rfl⟩

set_option maxHeartbeats 400000 in
theorem get_no (s : ByteArray) (hs : s.size ≤ maxLen) (a z : Int) (h : fieldOk s.size a z = false) (w : World) :
    Calls Tryz.prog 122 #[.string s, .int .i64 a, .int .i64 z] w fun e w' => e = .returned (.tuple #[.int .u64 0, .bool false]) ∧ w = w' := by
  have hv := valid_any s hs a z
  rw [h] at hv
  have HV := Lib.hid hv
  clear hv h
  go_enter Tryz.func122, Tryz.ntmps122
  go_wp2_with (go_at_call 139; refine (HV.out _).mono ?_; rintro e w' ⟨rfl, rfl⟩)
  go_ret2
  exact ⟨rfl, rfl⟩

/-- the number in the field of z bytes at a, or 0 -/
def getV (s : ByteArray) (a z : Int) : Nat := if fieldOk s.size a z then leN (fieldAt s a.toNat z.toNat) else 0

theorem getV_yes {s : ByteArray} {b y : Nat} (h : fieldOk s.size b y = true) : getV s b y = leN (fieldAt s b y) := by
  unfold getV; rw [if_pos h]; simp
theorem getV_no {s : ByteArray} {a z : Int} (h : fieldOk s.size a z = false) : getV s a z = 0 := by
  unfold getV; rw [if_neg (by simp [h])]
theorem getV_lt (s : ByteArray) (a z : Int) : getV s a z < 18446744073709551616 := by
  by_cases h : fieldOk s.size a z = true
  · obtain ⟨b, y, rfl, rfl, hy, hb⟩ := fieldOk_yes h
    rw [getV_yes h]
    have h2 := leN_lt (fieldAt s b y)
    rw [fieldAt_length s b y hb] at h2
    have h3 : (256 : Nat) ^ y ≤ 256 ^ 8 := Nat.pow_le_pow_right (by decide) (by omega)
    have h4 : (256 : Nat) ^ 8 = 18446744073709551616 := by decide
    omega
  · rw [getV_no (by simpa using h)]; decide

theorem get_any (s : ByteArray) (hs : s.size ≤ maxLen) (a z : Int) (w : World) :
    Calls Tryz.prog 122 #[.string s, .int .i64 a, .int .i64 z] w fun e w' => e = .returned (.tuple #[.int .u64 (getV s a z), .bool (fieldOk s.size a z)]) ∧ w = w' := by
  by_cases h : fieldOk s.size a z = true
  · obtain ⟨b, y, rfl, rfl, hy, hb⟩ := fieldOk_yes h
    rw [h, getV_yes h]
    exact get_yes s hs b y hy hb w
  · have h' : fieldOk s.size a z = false := by simpa using h
    rw [h', getV_no h']
    exact get_no s hs a z h' w

/-- the number as an int, or 0 -/
def intOk (s : ByteArray) (a z : Int) : Bool := fieldOk s.size a z && decide (getV s a z < 9223372036854775808)
def intV (s : ByteArray) (a z : Int) : Nat := if intOk s a z then getV s a z else 0

set_option maxHeartbeats 400000 in
theorem getInt_any (s : ByteArray) (hs : s.size ≤ maxLen) (a z : Int) (w : World) :
    Calls Tryz.prog 121 #[.string s, .int .i64 a, .int .i64 z] w fun e w' => e = .returned (.tuple #[.int .i64 (intV s a z), .bool (intOk s a z)]) ∧ w = w' := by
  have hv := get_any s hs a z
  have hlt := getV_lt s a z
  unfold intV intOk
  generalize getV s a z = n at *
  generalize fieldOk s.size a z = b at *
  have HV := Lib.hid hv
  clear hv
  cases b
  all_goals
    by_cases hn : n < 9223372036854775808
    all_goals
      simp only [hn, decide_true, decide_false, Bool.and_true, Bool.and_false, Bool.and_self, Bool.false_eq_true, if_true, if_false, Int.natCast_zero]
      go_enter Tryz.func121, Tryz.ntmps121
      go_wp2_with (go_at_call 122; refine (HV.out _).mono ?_; rintro e w' ⟨rfl, rfl⟩)
      go_ret2
      exact ⟨rfl, rfl⟩

end Go.Proofs.YtanghmogeiiooaaGreatDoor
