/- An inode's numbers one behind the other, and what comes of putting them: no program is named here. -/
import Derived.Test.YtfepjjjoikcljaaINum
import Derived.Test.YtfepjjjoikcljaaKRep
import Derived.Test.YtfepjjjoikcljaaWPutI
namespace Go.Proofs.Ytfepjjjoikcljaa
set_option linter.unusedVariables false
open Go.RowKit

/-- a number: where it begins, how many bytes, itself (in the shape of an entry: three ints) -/
abbrev fd (a z : Nat) (n : Int) : Ent := ⟨(a : Int), (z : Int), n⟩
def bytesF (L : List Ent) : List UInt8 := L.flatMap fun f => leB f.phys.toNat f.len.toNat
theorem bytesF_append (a b : List Ent) : bytesF (a ++ b) = bytesF a ++ bytesF b := by unfold bytesF; rw [List.flatMap_append]
/-- they follow one another from a on, and each fits -/
def Consec : Nat → List Ent → Prop
  | _, [] => True
  | a, f :: L => f.log = (a : Int) ∧ (f.phys = 1 ∨ f.phys = 2 ∨ f.phys = 4 ∨ f.phys = 8) ∧ 0 ≤ f.len ∧ f.len.toNat < 256 ^ f.phys.toNat ∧ Consec (a + f.phys.toNat) L
theorem consec_append : ∀ (L M : List Ent) (a : Nat), Consec a L → Consec (a + (bytesF L).length) M → Consec a (L ++ M)
  | [], M, a, _, h => by simpa [bytesF] using h
  | f :: L, M, a, h, k => by
    obtain ⟨h1, h2, h3, h4, h5⟩ := h
    refine ⟨h1, h2, h3, h4, consec_append L M _ h5 ?_⟩
    have e : (bytesF (f :: L)).length = f.phys.toNat + (bytesF L).length := by
      show (leB _ _ ++ bytesF L).length = _
      rw [List.length_append, leB_length]
    rw [e, ← Nat.add_assoc] at k
    exact k
theorem consec_take : ∀ (k : Nat) (L : List Ent) (a : Nat), Consec a L → Consec a (L.take k)
  | 0, _, _, _ => by simp [Consec]
  | k + 1, [], _, _ => by simp [Consec]
  | k + 1, f :: L, a, h => ⟨h.1, h.2.1, h.2.2.1, h.2.2.2.1, consec_take k L _ h.2.2.2.2⟩
theorem consec_at : ∀ (k : Nat) (L : List Ent) (a : Nat), Consec a L → ∀ hk : k < L.length, (L[k]).log = ((a + (bytesF (L.take k)).length : Nat) : Int) ∧ ((L[k]).phys = 1 ∨ (L[k]).phys = 2 ∨ (L[k]).phys = 4 ∨ (L[k]).phys = 8) ∧ 0 ≤ (L[k]).len ∧ (L[k]).len.toNat < 256 ^ (L[k]).phys.toNat
  | _, [], _, _, hk => by simp at hk
  | 0, f :: L, a, h, hk => ⟨by simpa [bytesF] using h.1, h.2.1, h.2.2.1, h.2.2.2.1⟩
  | k + 1, f :: L, a, h, hk => by
    have := consec_at k L _ h.2.2.2.2 (by simpa using hk)
    have e : (bytesF ((f :: L).take (k + 1))).length = f.phys.toNat + (bytesF (L.take k)).length := by
      show (leB _ _ ++ bytesF (L.take k)).length = _
      rw [List.length_append, leB_length]
    rw [e, ← Nat.add_assoc]
    exact this
/-- the text, its first k numbers put -/
def partF (L : List Ent) (k : Nat) : ByteArray := bs (bytesF (L.take k) ++ zeroL (64 - (bytesF (L.take k)).length))
theorem bytes_take_le (L : List Ent) (k : Nat) : (bytesF (L.take k)).length ≤ (bytesF L).length := by
  have : bytesF L = bytesF (L.take k) ++ bytesF (L.drop k) := by rw [← bytesF_append, List.take_append_drop]
  rw [this, List.length_append]; omega
theorem partF_size {L : List Ent} (hL : (bytesF L).length ≤ 64) (k : Nat) : (partF L k).size = 64 := by
  unfold partF
  have := bytes_take_le L k
  rw [bs_size, List.length_append, zeroL_length]; omega
theorem partF_put {L : List Ent} (hc : Consec 0 L) (hL : (bytesF L).length ≤ 64) {k : Nat} (hk : k < L.length) : putIntV (partF L k) (L[k]).log (L[k]).phys (L[k]).len = partF L (k + 1) := by
  obtain ⟨h1, h2, h3, h4⟩ := consec_at k L 0 hc hk
  have hs := partF_size hL k
  have ht : bytesF (L.take (k + 1)) = bytesF (L.take k) ++ leB (L[k]).phys.toNat (L[k]).len.toNat := by
    rw [List.take_succ_eq_append_getElem hk, bytesF_append]; simp [bytesF]
  have hle := bytes_take_le L (k + 1)
  rw [ht, List.length_append, leB_length] at hle
  generalize L[k] = f at *
  obtain ⟨fa, fz, fn⟩ := f
  simp only at *
  obtain ⟨z, rfl⟩ : ∃ z : Nat, fz = (z : Int) := ⟨fz.toNat, by omega⟩
  simp only [Int.toNat_natCast] at *
  subst h1
  rw [Nat.zero_add] at *
  unfold putIntV
  rw [if_pos h3, putV_yes (by unfold putOk fieldOk; rw [hs]; simp; omega)]
  unfold putS putL partF
  rw [bs_list]
  unfold bs
  congr 2
  rw [List.take_left' rfl, ht]
  have e3 : (bytesF (L.take k) ++ zeroL (64 - (bytesF (L.take k)).length)).drop ((bytesF (L.take k)).length + z) = zeroL (64 - ((bytesF (L.take k)).length + z)) := by
    rw [← List.drop_drop, List.drop_left' rfl]
    unfold zeroL; rw [List.drop_replicate]; congr 1; omega
  rw [e3, List.length_append, leB_length]
/-! ### an inode's numbers -/
def fd6 (x : Ino) : List Ent := [fd 0 1 x.kind, fd 1 1 (pinB x.pinned : Nat), fd 2 2 x.links, fd 4 8 x.size, fd 12 1 x.depth, fd 13 1 (x.root.length : Nat)]
def fdE (i : Nat) (e : Ent) : List Ent := [fd (14 + 12 * i) 4 e.log, fd (18 + 12 * i) 4 e.phys, fd (22 + 12 * i) 4 e.len]
def fdEs : Nat → List Ent → List Ent
  | _, [] => []
  | i, e :: l => fdE i e ++ fdEs (i + 1) l
theorem fdEs_snoc : ∀ (l : List Ent) (i : Nat) (e : Ent), fdEs i (l ++ [e]) = fdEs i l ++ fdE (i + l.length) e
  | [], i, e => by simp [fdEs]
  | a :: l, i, e => by
    rw [List.cons_append, fdEs, fdEs, fdEs_snoc l (i + 1) e, List.append_assoc, List.length_cons]
    congr 3; omega
theorem fdEs_length : ∀ (l : List Ent) (i : Nat), (fdEs i l).length = 3 * l.length
  | [], i => rfl
  | a :: l, i => by rw [fdEs, List.length_append, fdEs_length l (i + 1), List.length_cons]; show 3 + _ = _; omega
/-- all of them, of the first k entries -/
def fdK (x : Ino) (k : Nat) : List Ent := fd6 x ++ fdEs 0 (x.root.take k)
theorem fdK_succ (x : Ino) {k : Nat} (hk : k < x.root.length) : fdK x (k + 1) = fdK x k ++ fdE k (eat x.root k) := by
  unfold fdK
  rw [List.take_succ_eq_append_getElem hk, fdEs_snoc, List.length_take, Nat.min_eq_left (by omega), Nat.zero_add, List.append_assoc, eat_eq hk]
theorem fdK_length (x : Ino) {k : Nat} (hk : k ≤ x.root.length) : (fdK x k).length = 6 + 3 * k := by
  unfold fdK
  rw [List.length_append, fdEs_length, List.length_take, Nat.min_eq_left hk]; rfl
theorem bytes6 (x : Ino) : bytesF (fd6 x) = headI x := by
  unfold bytesF fd6 headI fd; simp
theorem bytesE (i : Nat) (e : Ent) : bytesF (fdE i e) = entB e := by
  unfold bytesF fdE entB fd; simp
theorem bytesEs : ∀ (l : List Ent) (i : Nat), bytesF (fdEs i l) = entsB l
  | [], i => rfl
  | e :: l, i => by rw [fdEs, bytesF_append, bytesE, bytesEs l, entsB_cons]
theorem bytesK (x : Ino) : bytesF (fdK x x.root.length) = headI x ++ entsB x.root := by
  unfold fdK; rw [bytesF_append, bytes6, bytesEs, List.take_length]
theorem consecE (i : Nat) (e : Ent) (h : (0 ≤ e.log ∧ e.log ≤ 4096) ∧ (0 ≤ e.phys ∧ e.phys ≤ 4096) ∧ (0 ≤ e.len ∧ e.len ≤ 4096)) : Consec (14 + 12 * i) (fdE i e) := by
  unfold fdE
  refine ⟨rfl, by simp, h.1.1, by simp; omega, ?_, by simp, h.2.1.1, by simp; omega, ?_, by simp, h.2.2.1, by simp; omega, trivial⟩
  · simp; omega
  · simp; omega
theorem consecEs : ∀ (l : List Ent) (i : Nat), (∀ e ∈ l, (0 ≤ e.log ∧ e.log ≤ 4096) ∧ (0 ≤ e.phys ∧ e.phys ≤ 4096) ∧ (0 ≤ e.len ∧ e.len ≤ 4096)) → Consec (14 + 12 * i) (fdEs i l)
  | [], i, _ => trivial
  | e :: l, i, h => by
    rw [fdEs]
    refine consec_append _ _ _ (consecE i e (h e (by simp))) ?_
    rw [bytesE, entB_length]
    exact consecEs l (i + 1) fun y hy => h y (by simp [hy])
theorem consecK {x : Ino} (h : InoOk x) : Consec 0 (fdK x x.root.length) := by
  have hn := ok_nums h
  have h4 := ok_short h
  refine consec_append _ _ _ ?_ ?_
  · unfold fd6
    refine ⟨rfl, by simp, hn.1.1, by simp; omega, by simp, by simp, by simp, by simp; unfold pinB; split <;> omega, by simp, by simp, hn.2.1.1, by simp; omega, by simp, by simp, hn.2.2.1.1, by simp; omega, by simp, by simp, hn.2.2.2.1, by simp; omega, by simp, by simp, by simp, by simp; omega, trivial⟩
  · rw [bytes6, headI_length, List.take_length]
    refine consecEs _ 0 fun e he => ?_
    obtain ⟨i, hi, rfl⟩ := List.getElem_of_mem he
    have := entOk_low (ok_ent h hi)
    rw [eat_eq hi] at this
    omega
theorem lenK {x : Ino} (h : InoOk x) : (bytesF (fdK x x.root.length)).length ≤ 64 := by
  have h4 := ok_short h
  rw [bytesK, List.length_append, headI_length, entsB_length]; omega
theorem part_all {x : Ino} (h : InoOk x) : partF (fdK x x.root.length) (fdK x x.root.length).length = ino x := by
  have h4 := ok_short h
  unfold partF ino inoL
  rw [List.take_length, bytesK, List.length_append, headI_length, entsB_length, List.append_assoc]
  congr 3
  unfold zeroL; congr 1; omega
theorem part_zero (x : Ino) : bs (zeroL 64) = partF (fdK x x.root.length) 0 := by
  unfold partF; simp [bytesF]
end Go.Proofs.Ytfepjjjoikcljaa
