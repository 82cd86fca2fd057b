import Derived.Test.YtanghmogeiiooaaGreatDoorPa01
import Derived.Test.YtanghmogeiiooaaGreatDoorPa02
import Derived.Laws.Bits64b
set_option linter.unusedVariables false
set_option linter.unusedSimpArgs false
set_option linter.constructorNameAsVariable false
/- The chapter's device, as a state; bytes in blocks; the laws of copy and of string(..) on them. -/
namespace Go.Proofs.YtanghmogeiiooaaGreatDoor
set_option linter.unusedVariables false
open Go.RowKit

/-- so many blocks, what stands there, what is kept, which are pending, how many acts are left (-1: all), how many were done -/
structure St where
  n : Nat
  now : Nat → ByteArray
  was : Nat → ByteArray
  pend : Nat → Bool
  left : Int
  acts : Nat
structure St.ok (S : St) : Prop where
  lo : 1 ≤ S.n
  hi : S.n ≤ 4096
  now : ∀ b, b < S.n → (S.now b).size = 128
  was : ∀ b, b < S.n → (S.was b).size = 128
  left : -1 ≤ S.left ∧ S.left ≤ 9223372036854775807
  same : ∀ b, b < S.n → S.pend b = false → S.now b = S.was b
def lessOne (l : Int) : Int := if 0 < l then l - 1 else l
def noLess (l : Int) : Int := if l < 0 then -1 else l
def St.acted (S : St) : St := { S with left := lessOne S.left, acts := S.acts + 1 }
def St.wrote (S : St) (b : Nat) (d : ByteArray) : St := { S.acted with now := upd S.now b d, pend := upd S.pend b true }
def St.flushed (S : St) : St := { S.acted with was := S.now, pend := fun _ => false }
def St.armed (S : St) (n : Int) : St := { S with left := noLess n }
def wCode (S : St) (b : Int) (z : Nat) : Int := if b < 0 ∨ (S.n : Int) ≤ b then 60 else if z ≠ 128 then 2 else if S.left = 0 then 61 else 0
def wSt (S : St) (b : Int) (d : ByteArray) : St := if wCode S b d.size = 0 then S.wrote b.toNat d else S
def fCode (S : St) : Int := if S.left = 0 then 61 else 0
def fSt (S : St) : St := if S.left = 0 then S else S.flushed
def rText (S : St) (b : Int) : ByteArray := if 0 ≤ b ∧ b < (S.n : Int) then S.now b.toNat else ⟨#[]⟩
def rCode (S : St) (b : Int) : Int := if 0 ≤ b ∧ b < (S.n : Int) then 0 else 60
def keepOf (l : List Bool) (k : Nat) : Bool := l[k]?.getD false
def crashT (S : St) (keep : List Bool) : ByteArray := cat (crashAt S.now S.was S.pend (keepOf keep)) S.n
def isDead (S : St) : Bool := decide (S.left = 0)
def pends (S : St) : List Nat := pendL S.pend S.n
theorem acted_ok {S : St} (h : S.ok) : S.acted.ok := ⟨h.lo, h.hi, h.now, h.was, by show -1 ≤ lessOne S.left ∧ _; have := h.left; unfold lessOne; constructor <;> (try show lessOne _ ≤ _) <;> (try unfold lessOne) <;> split <;> omega, h.same⟩
theorem wrote_ok {S : St} (h : S.ok) {b : Nat} {d : ByteArray} (hb : b < S.n) (hd : d.size = 128) : (S.wrote b d).ok :=
  ⟨h.lo, h.hi, fun i hi => by
    show (upd S.now b d i).size = 128
    by_cases e : i = b
    · subst e; rw [upd_same]; exact hd
    · rw [upd_other _ e]; exact h.now i hi, h.was, (acted_ok h).left, fun i hi hp => by
    have hp : upd S.pend b true i = false := hp
    show upd S.now b d i = S.was i
    by_cases e : i = b
    · subst e; rw [upd_same] at hp; cases hp
    · rw [upd_other _ e] at hp ⊢; exact h.same i hi hp⟩
theorem flushed_ok {S : St} (h : S.ok) : S.flushed.ok := ⟨h.lo, h.hi, h.now, h.now, (acted_ok h).left, fun _ _ _ => rfl⟩
theorem armed_ok {S : St} (h : S.ok) {n : Int} (hn : n ≤ 9223372036854775807) : (S.armed n).ok := ⟨h.lo, h.hi, h.now, h.was, by show -1 ≤ noLess n ∧ noLess n ≤ _; unfold noLess; split <;> omega, h.same⟩
theorem wCode_yes {S : St} {b : Int} {z : Nat} (h : wCode S b z = 0) : 0 ≤ b ∧ b < (S.n : Int) ∧ z = 128 ∧ S.left ≠ 0 := by
  unfold wCode at h
  split at h
  · cases h
  · split at h
    · cases h
    · split at h
      · cases h
      · exact ⟨by omega, by omega, by omega, by assumption⟩
theorem wCode_zero {S : St} {b : Int} {z : Nat} (h1 : 0 ≤ b) (h2 : b < (S.n : Int)) (h3 : z = 128) (h4 : S.left ≠ 0) : wCode S b z = 0 := by
  unfold wCode; rw [if_neg (by omega), if_neg (by omega), if_neg h4]
theorem wSt_ok {S : St} (h : S.ok) (b : Int) (d : ByteArray) : (wSt S b d).ok := by
  unfold wSt
  split
  · rename_i h0
    obtain ⟨h1, h2, h3, h4⟩ := wCode_yes h0
    exact wrote_ok h (by omega) h3
  · exact h
theorem fSt_ok {S : St} (h : S.ok) : (fSt S).ok := by
  unfold fSt
  split
  · exact h
  · exact flushed_ok h
theorem wSt_acts (S : St) (b : Int) (d : ByteArray) : (wSt S b d).acts ≤ S.acts + 1 := by
  unfold wSt
  split
  · exact Nat.le_refl _
  · omega
theorem fSt_acts (S : St) : (fSt S).acts ≤ S.acts + 1 := by
  unfold fSt
  split
  · omega
  · exact Nat.le_refl _
theorem wSt_n (S : St) (b : Int) (d : ByteArray) : (wSt S b d).n = S.n := by unfold wSt; split <;> rfl
theorem fSt_n (S : St) : (fSt S).n = S.n := by unfold fSt; split <;> rfl

/-! ### bytes in blocks of 128 -/
def byteAt (s : ByteArray) (j : Nat) : Int := ((s.data[j]?.getD 0).toNat : Int)
def byF (f : Nat → ByteArray) : Nat → Value := fun k => .int .u8 (byteAt (f (k / 128)) (k % 128))
def bytesL (s : ByteArray) : List Value := s.data.toList.map fun b => .int .u8 (b.toNat : Int)
theorem bytesL_length (s : ByteArray) : (bytesL s).length = s.size := by simp [bytesL]
theorem byteAt_lt {s : ByteArray} {j : Nat} (h : j < s.data.size) : byteAt s j = (s.data[j].toNat : Int) := by
  unfold byteAt; rw [Array.getElem?_eq_getElem h]; rfl
theorem bytesL_at (s : ByteArray) (j : Nat) (h : j < (bytesL s).length) : (bytesL s)[j] = .int .u8 (byteAt s j) := by
  have h' : j < s.data.size := by rw [bytesL_length] at h; exact h
  rw [byteAt_lt h']
  simp [bytesL]
theorem bytesL_one (s : ByteArray) : ∀ v ∈ bytesL s, v.oneCell' = true := by
  intro v hv
  obtain ⟨b, _, rfl⟩ := List.mem_map.1 hv; rfl
theorem cat_byte {f : Nat → ByteArray} : ∀ {n : Nat}, (∀ i < n, (f i).size = 128) → ∀ k, k < n * 128 → (cat f n).data[k]? = (f (k / 128)).data[k % 128]?
  | 0, _, k, hk => by omega
  | n + 1, h, k, hk => by
    have hs : (cat f n).size = n * 128 := cat_size fun i hi => h i (by omega)
    have hs' : (cat f n).data.size = n * 128 := hs
    rw [cat, ByteArray.data_append]
    by_cases hlt : k < n * 128
    · rw [Array.getElem?_append_left (by omega)]; exact cat_byte (fun i hi => h i (by omega)) k hlt
    · have e1 : k / 128 = n := by omega
      rw [Array.getElem?_append_right (by omega), e1, hs']
      congr 1; omega
theorem u8_string {w : World} (a : Addr) (cap : Nat) (s : ByteArray) (n : Nat) (hn : s.size = n) (hc : ∀ j, j < n → w.cell? (a.add j) = some (.int .u8 (byteAt s j))) :
    (convert 43 9 (.slice (some a) n cap)).run Tryz.prog w = .ok (.string s) w := by
  subst hn
  have h := run_convert_bytes_back (P := Tryz.prog) w 43 9 5 a cap s.data.toList Tryz.underlying43 Tryz.underlying5 Tryz.underlying9 fun j hj => by
    have hj : j < s.data.size := by simpa using hj
    rw [hc j hj, byteAt_lt hj]
    simp
  simpa using h
theorem read_block {w : World} {g N b cap : Nat} {f : Nat → ByteArray} (h : CellsAt g (N * 128) (byF f) w) (hb : b < N) (hz : (f b).size = 128) :
    (convert 43 9 (.slice (some ⟨g, b * 128, none⟩) 128 cap)).run Tryz.prog w = .ok (.string (f b)) w :=
  u8_string _ _ _ _ hz fun j hj => by
    rw [add_at, (h.2 (b * 128 + j) (by omega)).1]
    unfold byF
    rw [show (b * 128 + j) / 128 = b by omega, show (b * 128 + j) % 128 = j by omega]
theorem read_all {w : World} {g N cap : Nat} {f : Nat → ByteArray} (h : CellsAt g (N * 128) (byF f) w) (hz : ∀ b, b < N → (f b).size = 128) :
    (convert 43 9 (.slice (some ⟨g, 0, none⟩) (N * 128) cap)).run Tryz.prog w = .ok (.string (cat f N)) w :=
  u8_string _ _ _ _ (cat_size hz) fun j hj => by
    rw [add_at, Nat.zero_add, (h.2 j hj).1]
    unfold byF byteAt
    rw [cat_byte hz j hj]
/-- a block is written over -/
theorem sets_block {w : World} {g N b : Nat} {f : Nat → ByteArray} {s : ByteArray} (h : CellsAt g (N * 128) (byF f) w) (hb : b < N) (hz : s.size = 128) : CellsAt g (N * 128) (byF (upd f b s)) (w.setCells g (b * 128) (bytesL s)) := by
  have hl := bytesL_length s
  refine h.sets (by omega) _ (fun j hj => ?_) fun j hj hn => ?_
  · rw [bytesL_at]
    unfold byF
    rw [show (b * 128 + j) / 128 = b by omega, show (b * 128 + j) % 128 = j by omega, upd_same]
  · unfold byF
    rw [upd_other _ (by omega)]
theorem u8_size : (Tryz.prog.info? 5).map (·.size) = some 1 := by kernel_rfl
theorem run_copy_str {w : World} {ty : TypeId} {g o cap N : Nat} {s : ByteArray} {F : Nat → Value} (h : CellsAt g N F w) (ho : o + s.size ≤ N) (n : Nat) (hn : s.size = n) :
    (Builtin.copy_ #[43, 9] ty #[.slice (some ⟨g, o, none⟩) n cap, .string s]).run Tryz.prog w = .ok (goInt n) (w.setCells g o (bytesL s)) := by
  subst hn
  have hst := run_storeCells_cells (P := Tryz.prog) g o (bytesL s) 0 w (fun j hj => by rw [bytesL_length] at hj; rw [(h.2 (o + 0 + j) (by omega)).1]; rfl) (fun j hj => by rw [bytesL_length] at hj; exact (h.2 (o + 0 + j) (by omega)).2) (bytesL_one s)
  obtain ⟨i, hi, hs⟩ := Option.map_eq_some_iff.1 u8_size
  have hx : (((s.extract 0 s.size).data.map fun b => Value.int .u8 (b.toNat : Int))).toList = bytesL s := by
    rw [show s.extract 0 s.size = s from by
      have h := extract_full s; exact h]
    simp [bytesL]
  simp only [Builtin.copy_]
  simp [run_underlying Tryz.underlying43, Builtin.lenOf, Builtin.firstCells, sizeOf, typeInfo, hi]
  simp only [Nat.add_zero] at hst
  have hx' : List.take s.size (List.map (fun b : UInt8 => Value.int IntKind.u8 (b.toNat : Int)) s.data.toList) = bytesL s := List.take_of_length_le (by simp)
  rw [hx', hst]; rfl
end Go.Proofs.YtanghmogeiiooaaGreatDoor

/- Plain facts on the register of the checksum: one shift, many shifts, bytes, products. No program is named here. -/
namespace Go.Proofs.YtanghmogeiiooaaGreatDoor

/-- the register one bit further -/
def shf (r : Nat) : Nat := r / 2 ^^^ r % 2 * 3988292384
/-- n bits further -/
def shN : Nat → Nat → Nat
  | 0, r => r
  | n + 1, r => shN n (shf r)
/-- the register behind the bytes l -/
def run : Nat → List UInt8 → Nat
  | r, [] => r
  | r, c :: l => run (shN 8 (r ^^^ c.toNat)) l
/-- the first k terms of a product -/
def mulK : Nat → Nat → Nat → Nat
  | 0, _, _ => 0
  | k + 1, a, b => mulK k a b ^^^ (a / 2 ^ (31 - k) % 2 * shN k b)

theorem shf_xor (a b : Nat) : shf (a ^^^ b) = shf a ^^^ shf b := by
  unfold shf
  have h1 : (a ^^^ b) / 2 = a / 2 ^^^ b / 2 := Nat.xor_div_two
  have h2 : (a ^^^ b) % 2 = a % 2 ^^^ b % 2 := Nat.xor_mod_two_pow (n := 1)
  rw [h1, h2]
  have h3 : (a % 2 ^^^ b % 2) * 3988292384 = a % 2 * 3988292384 ^^^ b % 2 * 3988292384 := by
    rcases Nat.mod_two_eq_zero_or_one a with ha | ha <;> rcases Nat.mod_two_eq_zero_or_one b with hb | hb <;> rw [ha, hb] <;> decide
  rw [h3]
  ac_rfl
theorem shf_lt (r : Nat) (h : r < 4294967296) : shf r < 4294967296 := by
  unfold shf
  refine Nat.xor_lt_two_pow (n := 32) (by omega) ?_
  rcases Nat.mod_two_eq_zero_or_one r with hr | hr <;> rw [hr] <;> decide
theorem shf_zero : shf 0 = 0 := by decide
theorem shf_twice (x : Nat) : shf (2 * x) = x := by unfold shf; simp
theorem shN_succ (n r : Nat) : shN (n + 1) r = shf (shN n r) := by
  induction n generalizing r with
  | zero => rfl
  | succ n ih => rw [shN, ih]; rfl
theorem shN_add (n m r : Nat) : shN (n + m) r = shN m (shN n r) := by
  induction m with
  | zero => rfl
  | succ m ih => rw [← Nat.add_assoc, shN_succ, ih, shN_succ]
theorem shN_xor (n a b : Nat) : shN n (a ^^^ b) = shN n a ^^^ shN n b := by
  induction n generalizing a b with
  | zero => rfl
  | succ n ih => rw [shN, shf_xor, ih]; rfl
theorem shN_lt (n r : Nat) (h : r < 4294967296) : shN n r < 4294967296 := by
  induction n generalizing r with
  | zero => exact h
  | succ n ih => exact ih _ (shf_lt r h)
theorem shN_zero (n : Nat) : shN n 0 = 0 := by
  induction n with
  | zero => rfl
  | succ n ih => rw [shN, shf_zero, ih]
theorem shN_pow (n k : Nat) : shN n (2 ^ n * k) = k := by
  induction n generalizing k with
  | zero => simp [shN]
  | succ n ih => rw [shN, Nat.pow_succ, Nat.mul_comm (2 ^ n), Nat.mul_assoc, shf_twice, ih]

theorem xor_zero (a b : Nat) (h : a ^^^ b = 0) : a = b := by
  have : (a ^^^ b) ^^^ b = 0 ^^^ b := by rw [h]
  rw [Nat.xor_assoc, Nat.xor_self, Nat.xor_zero, Nat.zero_xor] at this
  exact this
/-- no register but 0 is shifted to 0 -/
theorem shf_ne (r : Nat) (h : r < 4294967296) (h0 : shf r = 0) : r = 0 := by
  unfold shf at h0
  have e := xor_zero _ _ h0
  rcases Nat.mod_two_eq_zero_or_one r with hr | hr
  · rw [hr] at e; omega
  · rw [hr] at e; omega
theorem shN_ne (n r : Nat) (h : r < 4294967296) (h0 : shN n r = 0) : r = 0 := by
  induction n generalizing r with
  | zero => exact h0
  | succ n ih => exact shf_ne r h (ih _ (shf_lt r h) h0)
theorem xor_cancel (a b : Nat) (h : a ^^^ b = a) : b = 0 := by
  have : a ^^^ (a ^^^ b) = a ^^^ a := by rw [h]
  rw [← Nat.xor_assoc, Nat.xor_self, Nat.zero_xor] at this
  exact this

theorem pow_add_xor (q s n : Nat) (h : s < 2 ^ n) : 2 ^ n * q + s = 2 ^ n * q ^^^ s := by
  apply Nat.eq_of_testBit_eq
  intro i
  rw [Nat.testBit_two_pow_mul_add q h i, Nat.testBit_xor, Nat.testBit_two_pow_mul]
  by_cases hi : i < n
  · rw [if_pos hi, decide_eq_false (by omega)]; simp
  · rw [if_neg hi, decide_eq_true (by omega), Nat.testBit_lt_two_pow (Nat.lt_of_lt_of_le h (Nat.pow_le_pow_right (by decide) (by omega)))]; simp

/-- the table of shalf bytes -/
def tabL : List Int := [0, 498536548, 997073096, 651767980, 1994146192, 1802195444, 1303535960, 1342533948, 3988292384, 4027552580, 3604390888, 3412177804, 2607071920, 2262029012, 2685067896, 3183342108]
def tab (i : Nat) : Nat := (tabL.getD i 0).toNat
theorem tab_is (i : Nat) (h : i < 16) : shN 4 i = tab i := by
  have : ∀ i : Fin 16, shN 4 i.val = tab i.val := by decide
  exact this ⟨i, h⟩
theorem tab_cell (i : Nat) (h : i < 16) : tabL.getD i 0 = (tab i : Int) := by
  have : ∀ i : Fin 16, tabL.getD i.val 0 = (tab i.val : Int) := by decide
  exact this ⟨i, h⟩
theorem shalf (r : Nat) : shN 4 r = r / 16 ^^^ tab (r % 16) := by
  have h1 : r = 2 ^ 4 * (r / 16) + r % 16 := by omega
  have h2 : r % 16 < 2 ^ 4 := by omega
  have h3 := pow_add_xor (r / 16) (r % 16) 4 h2
  rw [← h1] at h3
  have h4 : shN 4 r = shN 4 (2 ^ 4 * (r / 16) ^^^ r % 16) := congrArg (shN 4) h3
  rw [h4, shN_xor, shN_pow, tab_is _ (by omega)]
theorem eight (r : Nat) : shN 8 r = shN 4 r / 16 ^^^ tab (shN 4 r % 16) := by
  rw [← shalf, show 8 = 4 + 4 from rfl, shN_add]

/- bytes -/
theorem run_append (r : Nat) (a b : List UInt8) : run r (a ++ b) = run (run r a) b := by
  induction a generalizing r with
  | nil => rfl
  | cons c l ih => exact ih _
theorem run_snoc (r : Nat) (l : List UInt8) (c : UInt8) : run r (l ++ [c]) = shN 8 (run r l ^^^ c.toNat) := by rw [run_append]; rfl
theorem run_lt (r : Nat) (l : List UInt8) (h : r < 4294967296) : run r l < 4294967296 := by
  induction l generalizing r with
  | nil => exact h
  | cons c l ih => exact ih _ (shN_lt _ _ (Nat.xor_lt_two_pow (n := 32) h (by have := c.toNat_lt; omega)))
theorem run_xor (r d : Nat) (l : List UInt8) : run (r ^^^ d) l = run r l ^^^ shN (8 * l.length) d := by
  induction l generalizing r d with
  | nil => rfl
  | cons c l ih =>
    have e : r ^^^ d ^^^ c.toNat = (r ^^^ c.toNat) ^^^ d := by ac_rfl
    rw [run, e, shN_xor, ih, List.length_cons, Nat.mul_succ, Nat.add_comm, shN_add]; rfl
/-- one bit of a text turned -/
theorem run_turn (r : Nat) (l : List UInt8) (p j : Nat) (c : UInt8) (hp : p < l.length) (hj : j < 8) (hc : c.toNat = l[p].toNat ^^^ 2 ^ j) :
    run r (l.set p c) = run r l ^^^ shN (8 * l.length - (8 * p + j)) 1 := by
  induction l generalizing r p with
  | nil => simp at hp
  | cons b l ih =>
    cases p with
    | zero =>
      have hc' : c.toNat = b.toNat ^^^ 2 ^ j := hc
      have e1 : shN 8 (2 ^ j) = shN (8 - j) 1 := by
        have : shN j (2 ^ j * 1) = 1 := shN_pow j 1
        rw [Nat.mul_one] at this
        rw [show 8 = j + (8 - j) by omega, shN_add, this, show j + (8 - j) - j = 8 - j by omega]
      rw [List.set_cons_zero, run, hc', ← Nat.xor_assoc, shN_xor, run_xor, e1, ← shN_add, List.length_cons]
      rw [show 8 - j + 8 * l.length = 8 * (l.length + 1) - (8 * 0 + j) by omega]; rfl
    | succ p =>
      rw [List.set_cons_succ, run, ih _ p (by simpa using hp) hc, List.length_cons, show 8 * (l.length + 1) - (8 * (p + 1) + j) = 8 * l.length - (8 * p + j) by omega]; rfl
/-- three texts against one another -/
theorem run_three (a b c : Nat) (x y z u : List UInt8) (hx : x.length = u.length) (hy : y.length = u.length) (hz : z.length = u.length)
    (h : ∀ i (hi : i < u.length), (u[i]).toNat = (x[i]'(by omega)).toNat ^^^ (y[i]'(by omega)).toNat ^^^ (z[i]'(by omega)).toNat) :
    run (a ^^^ b ^^^ c) u = run a x ^^^ run b y ^^^ run c z := by
  induction u generalizing a b c x y z with
  | nil =>
    obtain rfl := List.eq_nil_of_length_eq_zero hx
    obtain rfl := List.eq_nil_of_length_eq_zero hy
    obtain rfl := List.eq_nil_of_length_eq_zero hz
    rfl
  | cons d u ih =>
    match x, y, z, hx, hy, hz with
    | p :: x, q :: y, s :: z, hx, hy, hz =>
      have h0 : d.toNat = p.toNat ^^^ q.toNat ^^^ s.toNat := h 0 (by simp)
      have e : a ^^^ b ^^^ c ^^^ d.toNat = (a ^^^ p.toNat) ^^^ (b ^^^ q.toNat) ^^^ (c ^^^ s.toNat) := by rw [h0]; ac_rfl
      simp only [run]
      rw [e, shN_xor, shN_xor]
      refine ih _ _ _ x y z (by simpa using hx) (by simpa using hy) (by simpa using hz) (fun i hi => ?_)
      exact h (i + 1) (by simpa using hi)

/- products -/
theorem mulK_shf (k a b : Nat) : mulK k a (shf b) = shf (mulK k a b) := by
  induction k with
  | zero => exact shf_zero.symm
  | succ k ih =>
    simp only [mulK]
    rw [ih, shf_xor]
    congr 1
    rcases Nat.mod_two_eq_zero_or_one (a / 2 ^ (31 - k)) with h | h
    · rw [h, Nat.zero_mul, Nat.zero_mul, shf_zero]
    · rw [h, Nat.one_mul, Nat.one_mul, ← shN_succ]; rfl
theorem mulK_shN (k a b m : Nat) : mulK k a (shN m b) = shN m (mulK k a b) := by
  induction m generalizing b with
  | zero => rfl
  | succ m ih => rw [shN, ih, mulK_shf]; rfl
theorem shN_one (k : Nat) (h : k < 32) : shN k 2147483648 = 2 ^ (31 - k) := by
  have e : 2147483648 = 2 ^ k * 2 ^ (31 - k) := by
    rw [← Nat.pow_add, show k + (31 - k) = 31 by omega]
  rw [e, shN_pow]
theorem mulK_one (k a : Nat) (hk : k ≤ 32) (ha : a < 4294967296) : mulK k a 2147483648 = a / 2 ^ (32 - k) * 2 ^ (32 - k) := by
  induction k with
  | zero => rw [Nat.div_eq_of_lt (by simpa using ha)]; rfl
  | succ k ih =>
    rw [mulK, ih (by omega), shN_one k (by omega)]
    have e1 : 2 ^ (32 - k) = 2 * 2 ^ (31 - k) := by rw [← Nat.pow_succ', show (31 - k).succ = 32 - k by omega]
    have e2 : a / 2 ^ (32 - k) = a / 2 ^ (31 - k) / 2 := by rw [e1, Nat.mul_comm, Nat.div_div_eq_div_mul]
    rw [show 32 - (k + 1) = 31 - k by omega, e2]
    generalize a / 2 ^ (31 - k) = q
    have e3 : q = q / 2 * 2 + q % 2 := by omega
    have e4 : q * 2 ^ (31 - k) = 2 ^ (32 - k) * (q / 2) + q % 2 * 2 ^ (31 - k) := by
      rw [e1]; conv => lhs; rw [e3, Nat.add_mul]
      rw [Nat.mul_comm (q / 2) 2, Nat.mul_assoc, Nat.mul_comm (q / 2), Nat.mul_assoc]
    rw [e4, pow_add_xor _ _ (32 - k), Nat.mul_comm (q / 2)]
    have : q % 2 ≤ 1 := by omega
    have hp : 0 < 2 ^ (31 - k) := Nat.pow_pos (by decide)
    rw [e1]
    rcases Nat.mod_two_eq_zero_or_one q with h | h <;> rw [h] <;> omega
theorem mul_one (a : Nat) (ha : a < 4294967296) : mulK 32 a 2147483648 = a := by
  rw [mulK_one 32 a (Nat.le_refl _) ha]; simp
/-- to multiply by what 1 becomes m bits further is to go m bits further -/
theorem mul_pow (a m : Nat) (ha : a < 4294967296) : mulK 32 a (shN m 2147483648) = shN m a := by
  rw [mulK_shN, mul_one a ha]
theorem mulK_lt (k a b : Nat) (hb : b < 4294967296) : mulK k a b < 4294967296 := by
  induction k with
  | zero => show 0 < 4294967296; decide
  | succ k ih =>
    rw [mulK]
    refine Nat.xor_lt_two_pow (n := 32) ih ?_
    have := shN_lt k b hb
    rcases Nat.mod_two_eq_zero_or_one (a / 2 ^ (31 - k)) with h | h <;> rw [h] <;> omega

/-- the sum behind a sum -/
def moreV (r : Nat) (l : List UInt8) : Nat := 4294967295 ^^^ run (4294967295 ^^^ r) l
theorem not_lt (r : Nat) (h : r < 4294967296) : 4294967295 ^^^ r < 4294967296 := Nat.xor_lt_two_pow (n := 32) (by decide) h
theorem moreV_lt (r : Nat) (l : List UInt8) (h : r < 4294967296) : moreV r l < 4294967296 := not_lt _ (run_lt _ _ (not_lt _ h))
theorem moreV_append (r : Nat) (a b : List UInt8) : moreV r (a ++ b) = moreV (moreV r a) b := by
  unfold moreV
  have e : ∀ x : Nat, 4294967295 ^^^ (4294967295 ^^^ x) = x := fun x => by rw [← Nat.xor_assoc, Nat.xor_self, Nat.zero_xor]
  rw [e, run_append]
end Go.Proofs.YtanghmogeiiooaaGreatDoor
