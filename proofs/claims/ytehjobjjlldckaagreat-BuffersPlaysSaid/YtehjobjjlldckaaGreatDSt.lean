/- The chapter's device, as a state; bytes in blocks; the laws of copy and of string(..) on them. -/
import Derived.Test.YtehjobjjlldckaaGreatBase
import Derived.Test.YtehjobjjlldckaaGreatDMath
namespace Go.Proofs.YtehjobjjlldckaaGreat
set_option linter.unusedVariables false
open Go.RowKit

/-- so many blocks, what stands there, what is kept, which are pending, how many acts are left (-1: all), how many were done -/
structure St where
  n : Nat
  now : Nat → ByteArray
  was : Nat → ByteArray
  pend : Nat → Bool
  left : Int
  acts : Nat
structure St.ok (S : St) : Prop where
  lo : 1 ≤ S.n
  hi : S.n ≤ 4096
  now : ∀ b, b < S.n → (S.now b).size = 128
  was : ∀ b, b < S.n → (S.was b).size = 128
  left : -1 ≤ S.left ∧ S.left ≤ 9223372036854775807
  same : ∀ b, b < S.n → S.pend b = false → S.now b = S.was b
def lessOne (l : Int) : Int := if 0 < l then l - 1 else l
def noLess (l : Int) : Int := if l < 0 then -1 else l
def St.acted (S : St) : St := { S with left := lessOne S.left, acts := S.acts + 1 }
def St.wrote (S : St) (b : Nat) (d : ByteArray) : St := { S.acted with now := upd S.now b d, pend := upd S.pend b true }
def St.flushed (S : St) : St := { S.acted with was := S.now, pend := fun _ => false }
def St.armed (S : St) (n : Int) : St := { S with left := noLess n }
def wCode (S : St) (b : Int) (z : Nat) : Int := if b < 0 ∨ (S.n : Int) ≤ b then 60 else if z ≠ 128 then 2 else if S.left = 0 then 61 else 0
def wSt (S : St) (b : Int) (d : ByteArray) : St := if wCode S b d.size = 0 then S.wrote b.toNat d else S
def fCode (S : St) : Int := if S.left = 0 then 61 else 0
def fSt (S : St) : St := if S.left = 0 then S else S.flushed
def rText (S : St) (b : Int) : ByteArray := if 0 ≤ b ∧ b < (S.n : Int) then S.now b.toNat else ⟨#[]⟩
def rCode (S : St) (b : Int) : Int := if 0 ≤ b ∧ b < (S.n : Int) then 0 else 60
def keepOf (l : List Bool) (k : Nat) : Bool := l[k]?.getD false
def crashT (S : St) (keep : List Bool) : ByteArray := cat (crashAt S.now S.was S.pend (keepOf keep)) S.n
def isDead (S : St) : Bool := decide (S.left = 0)
def pends (S : St) : List Nat := pendL S.pend S.n
theorem acted_ok {S : St} (h : S.ok) : S.acted.ok := ⟨h.lo, h.hi, h.now, h.was, by show -1 ≤ lessOne S.left ∧ _; have := h.left; unfold lessOne; constructor <;> (try show lessOne _ ≤ _) <;> (try unfold lessOne) <;> split <;> omega, h.same⟩
theorem wrote_ok {S : St} (h : S.ok) {b : Nat} {d : ByteArray} (hb : b < S.n) (hd : d.size = 128) : (S.wrote b d).ok :=
  ⟨h.lo, h.hi, fun i hi => by
    show (upd S.now b d i).size = 128
    by_cases e : i = b
    · subst e; rw [upd_same]; exact hd
    · rw [upd_other _ e]; exact h.now i hi, h.was, (acted_ok h).left, fun i hi hp => by
    have hp : upd S.pend b true i = false := hp
    show upd S.now b d i = S.was i
    by_cases e : i = b
    · subst e; rw [upd_same] at hp; cases hp
    · rw [upd_other _ e] at hp ⊢; exact h.same i hi hp⟩
theorem flushed_ok {S : St} (h : S.ok) : S.flushed.ok := ⟨h.lo, h.hi, h.now, h.now, (acted_ok h).left, fun _ _ _ => rfl⟩
theorem armed_ok {S : St} (h : S.ok) {n : Int} (hn : n ≤ 9223372036854775807) : (S.armed n).ok := ⟨h.lo, h.hi, h.now, h.was, by show -1 ≤ noLess n ∧ noLess n ≤ _; unfold noLess; split <;> omega, h.same⟩
theorem wCode_yes {S : St} {b : Int} {z : Nat} (h : wCode S b z = 0) : 0 ≤ b ∧ b < (S.n : Int) ∧ z = 128 ∧ S.left ≠ 0 := by
  unfold wCode at h
  split at h
  · cases h
  · split at h
    · cases h
    · split at h
      · cases h
      · exact ⟨by omega, by omega, by omega, by assumption⟩
theorem wCode_zero {S : St} {b : Int} {z : Nat} (h1 : 0 ≤ b) (h2 : b < (S.n : Int)) (h3 : z = 128) (h4 : S.left ≠ 0) : wCode S b z = 0 := by
  unfold wCode; rw [if_neg (by omega), if_neg (by omega), if_neg h4]
theorem wSt_ok {S : St} (h : S.ok) (b : Int) (d : ByteArray) : (wSt S b d).ok := by
  unfold wSt
  split
  · rename_i h0
    obtain ⟨h1, h2, h3, h4⟩ := wCode_yes h0
    exact wrote_ok h (by omega) h3
  · exact h
theorem fSt_ok {S : St} (h : S.ok) : (fSt S).ok := by
  unfold fSt
  split
  · exact h
  · exact flushed_ok h
theorem wSt_acts (S : St) (b : Int) (d : ByteArray) : (wSt S b d).acts ≤ S.acts + 1 := by
  unfold wSt
  split
  · exact Nat.le_refl _
  · omega
theorem fSt_acts (S : St) : (fSt S).acts ≤ S.acts + 1 := by
  unfold fSt
  split
  · omega
  · exact Nat.le_refl _
theorem wSt_n (S : St) (b : Int) (d : ByteArray) : (wSt S b d).n = S.n := by unfold wSt; split <;> rfl
theorem fSt_n (S : St) : (fSt S).n = S.n := by unfold fSt; split <;> rfl

/-! ### bytes in blocks of 128 -/
def byteAt (s : ByteArray) (j : Nat) : Int := ((s.data[j]?.getD 0).toNat : Int)
def byF (f : Nat → ByteArray) : Nat → Value := fun k => .int .u8 (byteAt (f (k / 128)) (k % 128))
def bytesL (s : ByteArray) : List Value := s.data.toList.map fun b => .int .u8 (b.toNat : Int)
theorem bytesL_length (s : ByteArray) : (bytesL s).length = s.size := by simp [bytesL]
theorem byteAt_lt {s : ByteArray} {j : Nat} (h : j < s.data.size) : byteAt s j = (s.data[j].toNat : Int) := by
  unfold byteAt; rw [Array.getElem?_eq_getElem h]; rfl
theorem bytesL_at (s : ByteArray) (j : Nat) (h : j < (bytesL s).length) : (bytesL s)[j] = .int .u8 (byteAt s j) := by
  have h' : j < s.data.size := by rw [bytesL_length] at h; exact h
  rw [byteAt_lt h']
  simp [bytesL]
theorem bytesL_one (s : ByteArray) : ∀ v ∈ bytesL s, v.oneCell' = true := by
  intro v hv
  obtain ⟨b, _, rfl⟩ := List.mem_map.1 hv; rfl
theorem cat_byte {f : Nat → ByteArray} : ∀ {n : Nat}, (∀ i < n, (f i).size = 128) → ∀ k, k < n * 128 → (cat f n).data[k]? = (f (k / 128)).data[k % 128]?
  | 0, _, k, hk => by omega
  | n + 1, h, k, hk => by
    have hs : (cat f n).size = n * 128 := cat_size fun i hi => h i (by omega)
    have hs' : (cat f n).data.size = n * 128 := hs
    rw [cat, ByteArray.data_append]
    by_cases hlt : k < n * 128
    · rw [Array.getElem?_append_left (by omega)]; exact cat_byte (fun i hi => h i (by omega)) k hlt
    · have e1 : k / 128 = n := by omega
      rw [Array.getElem?_append_right (by omega), e1, hs']
      congr 1; omega
theorem u8_string {w : World} (a : Addr) (cap : Nat) (s : ByteArray) (n : Nat) (hn : s.size = n) (hc : ∀ j, j < n → w.cell? (a.add j) = some (.int .u8 (byteAt s j))) :
    (convert 61 9 (.slice (some a) n cap)).run Tryz.prog w = .ok (.string s) w := by
  subst hn
  have h := run_convert_bytes_back (P := Tryz.prog) w 61 9 5 a cap s.data.toList Tryz.underlying61 Tryz.underlying5 Tryz.underlying9 fun j hj => by
    have hj : j < s.data.size := by simpa using hj
    rw [hc j hj, byteAt_lt hj]
    simp
  simpa using h
theorem read_block {w : World} {g N b cap : Nat} {f : Nat → ByteArray} (h : CellsAt g (N * 128) (byF f) w) (hb : b < N) (hz : (f b).size = 128) :
    (convert 61 9 (.slice (some ⟨g, b * 128, none⟩) 128 cap)).run Tryz.prog w = .ok (.string (f b)) w :=
  u8_string _ _ _ _ hz fun j hj => by
    rw [add_at, (h.2 (b * 128 + j) (by omega)).1]
    unfold byF
    rw [show (b * 128 + j) / 128 = b by omega, show (b * 128 + j) % 128 = j by omega]
theorem read_all {w : World} {g N cap : Nat} {f : Nat → ByteArray} (h : CellsAt g (N * 128) (byF f) w) (hz : ∀ b, b < N → (f b).size = 128) :
    (convert 61 9 (.slice (some ⟨g, 0, none⟩) (N * 128) cap)).run Tryz.prog w = .ok (.string (cat f N)) w :=
  u8_string _ _ _ _ (cat_size hz) fun j hj => by
    rw [add_at, Nat.zero_add, (h.2 j hj).1]
    unfold byF byteAt
    rw [cat_byte hz j hj]
/-- a block is written over -/
theorem sets_block {w : World} {g N b : Nat} {f : Nat → ByteArray} {s : ByteArray} (h : CellsAt g (N * 128) (byF f) w) (hb : b < N) (hz : s.size = 128) : CellsAt g (N * 128) (byF (upd f b s)) (w.setCells g (b * 128) (bytesL s)) := by
  have hl := bytesL_length s
  refine h.sets (by omega) _ (fun j hj => ?_) fun j hj hn => ?_
  · rw [bytesL_at]
    unfold byF
    rw [show (b * 128 + j) / 128 = b by omega, show (b * 128 + j) % 128 = j by omega, upd_same]
  · unfold byF
    rw [upd_other _ (by omega)]
theorem u8_size : (Tryz.prog.info? 5).map (·.size) = some 1 := by kernel_rfl
theorem run_copy_str {w : World} {ty : TypeId} {g o cap N : Nat} {s : ByteArray} {F : Nat → Value} (h : CellsAt g N F w) (ho : o + s.size ≤ N) (n : Nat) (hn : s.size = n) :
    (Builtin.copy_ #[61, 9] ty #[.slice (some ⟨g, o, none⟩) n cap, .string s]).run Tryz.prog w = .ok (goInt n) (w.setCells g o (bytesL s)) := by
  subst hn
  have hst := run_storeCells_cells (P := Tryz.prog) g o (bytesL s) 0 w (fun j hj => by rw [bytesL_length] at hj; rw [(h.2 (o + 0 + j) (by omega)).1]; rfl) (fun j hj => by rw [bytesL_length] at hj; exact (h.2 (o + 0 + j) (by omega)).2) (bytesL_one s)
  obtain ⟨i, hi, hs⟩ := Option.map_eq_some_iff.1 u8_size
  have hx : (((s.extract 0 s.size).data.map fun b => Value.int .u8 (b.toNat : Int))).toList = bytesL s := by
    rw [show s.extract 0 s.size = s from by
      have h := extract_full s; exact h]
    simp [bytesL]
  simp only [Builtin.copy_]
  simp [run_underlying Tryz.underlying61, Builtin.lenOf, Builtin.firstCells, sizeOf, typeInfo, hi]
  simp only [Nat.add_zero] at hst
  have hx' : List.take s.size (List.map (fun b : UInt8 => Value.int IntKind.u8 (b.toNat : Int)) s.data.toList) = bytesL s := List.take_of_length_le (by simp)
  rw [hx', hst]; rfl
end Go.Proofs.YtehjobjjlldckaaGreat
