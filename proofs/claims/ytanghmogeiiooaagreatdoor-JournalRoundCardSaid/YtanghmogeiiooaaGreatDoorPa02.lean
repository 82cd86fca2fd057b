import Derived.Test.YtanghmogeiiooaaGreatDoorPa01
import Derived.Laws.Bits64b
set_option linter.unusedVariables false
set_option linter.unusedSimpArgs false
set_option linter.constructorNameAsVariable false
/- The contracts of Of, within, laid, and of the document's Of. -/
namespace Go.Proofs.YtanghmogeiiooaaGreatDoor
set_option linter.unusedVariables false
open Go.RowKit

theorem within_yes (n a b : Int) (h1 : a ≤ n) (h2 : n ≤ b) (w : World) :
    Calls Tryz.prog 81 #[.int .i64 n, .int .i64 a, .int .i64 b] w fun e w' => e = .returned (.bool true) ∧ w = w' := by
  go_enter Tryz.func81, Tryz.ntmps81
  go_wp2
  go_ret
  exact ⟨rfl, rfl⟩
theorem within_no (n a b : Int) (h : n < a ∨ b < n) (w : World) :
    Calls Tryz.prog 81 #[.int .i64 n, .int .i64 a, .int .i64 b] w fun e w' => e = .returned (.bool false) ∧ w = w' := by
  by_cases h1 : a ≤ n
  · have h2 : b < n := by omega
    go_enter Tryz.func81, Tryz.ntmps81
    go_wp2
    go_ret
    exact ⟨ret_bool (by simp; omega), rfl⟩
  · have h2 : n < a := by omega
    go_enter Tryz.func81, Tryz.ntmps81
    go_wp2
    go_ret
    exact ⟨rfl, rfl⟩

set_option maxHeartbeats 2000000 in
theorem laid_any (b l i m t : Nat) (h : fitN b l i m t) (w : World) :
    Calls Tryz.prog 82 #[.int .i64 (b : Int), .int .i64 (l : Int), .int .i64 (i : Int)] w fun e w' => e = .returned (lay b l i m t) ∧ Below w.heap.size w w' := by
  obtain ⟨h1, h2, h3, h4, h5, h6, h7, h8, h9⟩ := h
  have e1 : ((b : Int) + 1024 - 1) / 1024 = (m : Int) := by omega
  have e2 : (i : Int) / 2 = (t : Int) := by omega
  have hm : m ≤ 4 := by omega
  have ht : t ≤ 256 := by omega
  clear h7 h8 h9
  go_enter Tryz.func82, Tryz.ntmps82
  go_wp2
  refine bodyPost_ret (v := lay b l i m t) ?_ rfl ⟨rfl, ?_⟩
  · rw [results_one_cell rfl]
    go_simp
  · exact balloc (balloc1 _ _) _

/-! ### Of -/
theorem okN_fit {b l i m t : Nat} (h : okN b l i m t) : fitN b l i m t := by unfold okN at h; unfold fitN; omega

set_option maxHeartbeats 2000000 in
theorem of_yes (b l i m t : Nat) (h : okN b l i m t) (w : World) :
    Calls Tryz.prog 51 #[.int .i64 (b : Int), .int .i64 (l : Int), .int .i64 (i : Int)] w fun e w' => e = .returned (.tuple #[lay b l i m t, .int .i64 0]) ∧ Below w.heap.size w w' := by
  have L := Lib.hid (laid_any b l i m t (okN_fit h) (w.alloc (.cells #[.int .i64 0, .int .i64 0, .int .i64 0, .int .i64 0, .int .i64 0, .int .i64 0, .int .i64 0, .int .i64 0, .int .i64 0] 33)))
  obtain ⟨h1, h2, h3, h4, h5, h6, h7, h8, h9, h10⟩ := h
  have W1 := Lib.hid (within_yes b 256 4096 (by omega) (by omega))
  have W2 := Lib.hid (within_yes l 128 512 (by omega) (by omega))
  have W3 := Lib.hid (within_yes i 8 512 (by omega) (by omega))
  have e1 : ((i : Int) % 2 != 0) = false := by rw [bne_eq_false_iff_eq]; omega
  have hm : m ≤ 4 := by omega
  have ht : t ≤ 256 := by omega
  clear h7 h8 h9
  go_enter Tryz.func51, Tryz.ntmps51
  go_wp2_with fail
  refine (W1.out _).mono ?_; rintro e w' ⟨rfl, rfl⟩
  go_wp2_with fail
  refine (W2.out _).mono ?_; rintro e w' ⟨rfl, rfl⟩
  go_wp2_with fail
  refine (W3.out _).mono ?_; rintro e w' ⟨rfl, rfl⟩
  go_wp2_with fail
  refine L.out.mono ?_; rintro e w1 ⟨rfl, hb⟩
  have hres : GeoAt w.heap.size 0 0 0 0 0 0 0 0 0 w1 := (GeoAt.new 0 0 0 0 0 0 0 0 0 w).kept1 hb
  have hbb := below_boxed hb
  have hres := (hres.kept1 (balloc1 w1 (.cells (cellsG b l i 1 (1 + l) m (1 + l + m) t (1 + l + m + t)) 33)))
  go_wp2_with (refine wpList_store_geo rfl _ _ rfl rfl rfl hres ?_)
  intro w2 h2 hl2 hs2 _
  obtain ⟨c0, c1, c2, c3, c4, c5, c6, c7, c8⟩ := h2.cells
  have hbe : Below w.heap.size w w2 := (balloc hbb _).trans hl2
  clear hl2 hs2 hres hb hbb
  go_wp2
  refine bodyPost_ret (v := .tuple #[lay b l i m t, .int .i64 0]) ?_ rfl ⟨rfl, hbe⟩
  rw [results_cell_tmp rfl]
  go_simp

/-- what Of tells of three numbers that may not be -/
abbrev offG : Value := .tuple #[noG, .int .i64 2]
theorem of_off1 (b l i : Int) (h : b < 256 ∨ 4096 < b) (w : World) :
    Calls Tryz.prog 51 #[.int .i64 b, .int .i64 l, .int .i64 i] w fun e w' => e = .returned offG ∧ Below w.heap.size w w' := by
  have W1 := Lib.hid (within_no b 256 4096 h)
  clear h
  go_enter Tryz.func51, Tryz.ntmps51
  go_wp2_with fail
  refine (W1.out _).mono ?_; rintro e w' ⟨rfl, rfl⟩
  go_wp2
  refine bodyPost_ret (v := offG) ?_ rfl ⟨rfl, balloc1 _ _⟩
  rw [results_cell_tmp rfl]
  go_simp
theorem of_off2 (b l i : Int) (h1 : 256 ≤ b) (h2 : b ≤ 4096) (h : l < 128 ∨ 512 < l) (w : World) :
    Calls Tryz.prog 51 #[.int .i64 b, .int .i64 l, .int .i64 i] w fun e w' => e = .returned offG ∧ Below w.heap.size w w' := by
  have W1 := Lib.hid (within_yes b 256 4096 h1 h2)
  have W2 := Lib.hid (within_no l 128 512 h)
  clear h h1 h2
  go_enter Tryz.func51, Tryz.ntmps51
  go_wp2_with fail
  refine (W1.out _).mono ?_; rintro e w' ⟨rfl, rfl⟩
  go_wp2_with fail
  refine (W2.out _).mono ?_; rintro e w' ⟨rfl, rfl⟩
  go_wp2
  refine bodyPost_ret (v := offG) ?_ rfl ⟨rfl, balloc1 _ _⟩
  rw [results_cell_tmp rfl]
  go_simp
theorem of_off3 (b l i : Int) (h1 : 256 ≤ b) (h2 : b ≤ 4096) (h3 : 128 ≤ l) (h4 : l ≤ 512) (h : i < 8 ∨ 512 < i) (w : World) :
    Calls Tryz.prog 51 #[.int .i64 b, .int .i64 l, .int .i64 i] w fun e w' => e = .returned offG ∧ Below w.heap.size w w' := by
  have W1 := Lib.hid (within_yes b 256 4096 h1 h2)
  have W2 := Lib.hid (within_yes l 128 512 h3 h4)
  have W3 := Lib.hid (within_no i 8 512 h)
  clear h h1 h2 h3 h4
  go_enter Tryz.func51, Tryz.ntmps51
  go_wp2_with fail
  refine (W1.out _).mono ?_; rintro e w' ⟨rfl, rfl⟩
  go_wp2_with fail
  refine (W2.out _).mono ?_; rintro e w' ⟨rfl, rfl⟩
  go_wp2_with fail
  refine (W3.out _).mono ?_; rintro e w' ⟨rfl, rfl⟩
  go_wp2
  refine bodyPost_ret (v := offG) ?_ rfl ⟨rfl, balloc1 _ _⟩
  rw [results_cell_tmp rfl]
  go_simp
theorem of_off4 (b l : Int) (i : Nat) (h1 : 256 ≤ b) (h2 : b ≤ 4096) (h3 : 128 ≤ l) (h4 : l ≤ 512) (h5 : 8 ≤ (i : Int)) (h6 : (i : Int) ≤ 512) (h : (i : Int) % 2 ≠ 0) (w : World) :
    Calls Tryz.prog 51 #[.int .i64 b, .int .i64 l, .int .i64 (i : Int)] w fun e w' => e = .returned offG ∧ Below w.heap.size w w' := by
  have W1 := Lib.hid (within_yes b 256 4096 h1 h2)
  have W2 := Lib.hid (within_yes l 128 512 h3 h4)
  have W3 := Lib.hid (within_yes i 8 512 h5 h6)
  have e1 : ((i : Int) % 2 != 0) = true := by rw [bne_iff_ne]; exact h
  clear h h1 h2 h3 h4
  go_enter Tryz.func51, Tryz.ntmps51
  go_wp2_with fail
  refine (W1.out _).mono ?_; rintro e w' ⟨rfl, rfl⟩
  go_wp2_with fail
  refine (W2.out _).mono ?_; rintro e w' ⟨rfl, rfl⟩
  go_wp2_with fail
  refine (W3.out _).mono ?_; rintro e w' ⟨rfl, rfl⟩
  go_wp2
  refine bodyPost_ret (v := offG) ?_ rfl ⟨rfl, balloc1 _ _⟩
  rw [results_cell_tmp rfl]
  go_simp
theorem of_off5 (b l i m t : Nat) (h : fitN b l i m t) (h10 : b < 17 + l + m + t) (w : World) :
    Calls Tryz.prog 51 #[.int .i64 (b : Int), .int .i64 (l : Int), .int .i64 (i : Int)] w fun e w' => e = .returned offG ∧ Below w.heap.size w w' := by
  have L := Lib.hid (laid_any b l i m t h (w.alloc (.cells #[.int .i64 0, .int .i64 0, .int .i64 0, .int .i64 0, .int .i64 0, .int .i64 0, .int .i64 0, .int .i64 0, .int .i64 0] 33)))
  obtain ⟨h1, h2, h3, h4, h5, h6, h7, h8, h9⟩ := h
  have W1 := Lib.hid (within_yes b 256 4096 (by omega) (by omega))
  have W2 := Lib.hid (within_yes l 128 512 (by omega) (by omega))
  have W3 := Lib.hid (within_yes i 8 512 (by omega) (by omega))
  have e1 : ((i : Int) % 2 != 0) = false := by rw [bne_eq_false_iff_eq]; omega
  have hm : m ≤ 4 := by omega
  have ht : t ≤ 256 := by omega
  clear h7 h8 h9
  go_enter Tryz.func51, Tryz.ntmps51
  go_wp2_with fail
  refine (W1.out _).mono ?_; rintro e w' ⟨rfl, rfl⟩
  go_wp2_with fail
  refine (W2.out _).mono ?_; rintro e w' ⟨rfl, rfl⟩
  go_wp2_with fail
  refine (W3.out _).mono ?_; rintro e w' ⟨rfl, rfl⟩
  go_wp2_with fail
  refine L.out.mono ?_; rintro e w1 ⟨rfl, hb⟩
  have hres : GeoAt w.heap.size 0 0 0 0 0 0 0 0 0 w1 := (GeoAt.new 0 0 0 0 0 0 0 0 0 w).kept1 hb
  have hbb := below_boxed hb
  have hres := (hres.kept1 (balloc1 w1 (.cells (cellsG b l i 1 (1 + l) m (1 + l + m) t (1 + l + m + t)) 33)))
  go_wp2_with (refine wpList_store_geo rfl _ _ rfl rfl rfl hres ?_)
  intro w2 h2 hl2 hs2 _
  obtain ⟨c0, c1, c2, c3, c4, c5, c6, c7, c8⟩ := h2.cells
  have hbe : Below w.heap.size w w2 := (balloc hbb _).trans hl2
  clear hl2 hs2 hres hb hbb
  go_wp2
  refine bodyPost_ret (v := offG) ?_ rfl ⟨rfl, hbe⟩
  rw [results_cell_tmp rfl]
  go_simp
theorem fit_of {b l i : Int} (h1 : 256 ≤ b) (h2 : b ≤ 4096) (h3 : 128 ≤ l) (h4 : l ≤ 512) (h5 : 8 ≤ i) (h6 : i ≤ 512) (h7 : i % 2 = 0) : ∃ b' l' i' m t : Nat, b = b' ∧ l = l' ∧ i = i' ∧ fitN b' l' i' m t := by
  refine ⟨b.toNat, l.toNat, i.toNat, ((b + 1023) / 1024).toNat, (i / 2).toNat, by omega, by omega, by omega, ?_⟩
  unfold fitN; omega
theorem of_off (b l i : Int) (h : ¬ okG b l i) (w : World) :
    Calls Tryz.prog 51 #[.int .i64 b, .int .i64 l, .int .i64 i] w fun e w' => e = .returned offG ∧ Below w.heap.size w w' := by
  by_cases h1 : b < 256 ∨ 4096 < b
  · exact of_off1 b l i h1 w
  by_cases h2 : l < 128 ∨ 512 < l
  · exact of_off2 b l i (by omega) (by omega) h2 w
  by_cases h3 : i < 8 ∨ 512 < i
  · exact of_off3 b l i (by omega) (by omega) (by omega) (by omega) h3 w
  by_cases h4 : i % 2 = 0
  · obtain ⟨b', l', i', m, t, rfl, rfl, rfl, hf⟩ := fit_of (b := b) (l := l) (i := i) (by omega) (by omega) (by omega) (by omega) (by omega) (by omega) h4
    refine of_off5 b' l' i' m t hf ?_ w
    by_cases h5 : b' < 17 + l' + m + t
    · exact h5
    · exact absurd (okG_of (m := m) (t := t) (by unfold fitN at hf; unfold okN; omega)) h
  · obtain ⟨j, rfl⟩ := Int.eq_ofNat_of_zero_le (show 0 ≤ i by omega)
    exact of_off4 b l j (by omega) (by omega) (by omega) (by omega) (by omega) (by omega) h4 w
end Go.Proofs.YtanghmogeiiooaaGreatDoor

/- Images: blocks one behind the other; which blocks are pending, counted. Without the program. -/
namespace Go.Proofs.YtanghmogeiiooaaGreatDoor
set_option linter.unusedVariables false

/-! ### texts one behind the other -/
/-- the first n of the texts f, one behind the other -/
def cat (f : Nat → ByteArray) : Nat → ByteArray
  | 0 => ⟨#[]⟩
  | n + 1 => cat f n ++ f n
theorem cat_congr {f g : Nat → ByteArray} : ∀ {n : Nat}, (∀ i < n, f i = g i) → cat f n = cat g n
  | 0, _ => rfl
  | n + 1, h => by rw [cat, cat, cat_congr fun i hi => h i (by omega), h n (by omega)]
theorem cat_size {f : Nat → ByteArray} {z : Nat} : ∀ {n : Nat}, (∀ i < n, (f i).size = z) → (cat f n).size = n * z
  | 0, _ => by show (0 : Nat) = _; omega
  | n + 1, h => by rw [cat, ByteArray.size_append, cat_size fun i hi => h i (by omega), h n (by omega), Nat.add_mul]; omega
theorem extract_full (s : ByteArray) : s.extract 0 s.size = s := by
  have h : (s ++ ByteArray.empty).extract 0 s.size = s := ByteArray.extract_append_eq_left rfl
  rwa [ByteArray.append_empty] at h
theorem cat_at {f : Nat → ByteArray} {z : Nat} : ∀ {n : Nat}, (∀ i < n, (f i).size = z) → ∀ {i}, i < n → (cat f n).extract (i * z) ((i + 1) * z) = f i
  | 0, _, i, hi => by omega
  | n + 1, h, i, hi => by
    have hs := cat_size (n := n) fun i hi => h i (by omega)
    have hz : (i + 1) * z = i * z + z := by rw [Nat.add_mul]; omega
    by_cases e : i = n
    · subst e
      rw [cat]
      exact ByteArray.extract_append_eq_right hs.symm (by rw [hs, h i (by omega)]; exact hz)
    · have hle : (i + 1) * z ≤ n * z := Nat.mul_le_mul_right z (by omega)
      have h0 : (f n).extract (i * z - n * z) ((i + 1) * z - n * z) = ByteArray.empty := by
        apply ByteArray.ext_getElem
        · rw [ByteArray.size_extract]; show _ = 0; omega
        · intro j hj; rw [ByteArray.size_extract] at hj; omega
      rw [cat, ByteArray.extract_append, cat_at (fun i hi => h i (by omega)) (by omega), hs, h0, ByteArray.append_empty]
theorem cat_inj {f g : Nat → ByteArray} {z n : Nat} (hf : ∀ i < n, (f i).size = z) (hg : ∀ i < n, (g i).size = z) (h : cat f n = cat g n) : ∀ i < n, f i = g i := fun i hi => by
  rw [← cat_at hf hi, ← cat_at hg hi, h]
/-- block i of a text -/
def blkOf (z : Nat) (s : ByteArray) (i : Nat) : ByteArray := s.extract (i * z) ((i + 1) * z)
theorem blkOf_size {z n : Nat} {s : ByteArray} (h : s.size = n * z) {i : Nat} (hi : i < n) : (blkOf z s i).size = z := by
  have hz : (i + 1) * z = i * z + z := by rw [Nat.add_mul]; omega
  have hle : (i + 1) * z ≤ n * z := Nat.mul_le_mul_right z (by omega)
  unfold blkOf
  rw [ByteArray.size_extract]; omega
theorem cat_upto (z : Nat) (s : ByteArray) : ∀ n, n * z ≤ s.size → cat (blkOf z s) n = s.extract 0 (n * z)
  | 0, _ => by
    apply ByteArray.ext_getElem
    · rw [ByteArray.size_extract]; show 0 = _; omega
    · intro j hj; have : j < 0 := hj; omega
  | n + 1, h => by
    have hz : (n + 1) * z = n * z + z := by rw [Nat.add_mul]; omega
    rw [cat, cat_upto z s n (by omega)]
    unfold blkOf
    apply ByteArray.ext_getElem
    · rw [ByteArray.size_append, ByteArray.size_extract, ByteArray.size_extract, ByteArray.size_extract]; omega
    · intro j hj hj'
      rw [ByteArray.getElem_extract]
      rw [ByteArray.size_extract] at hj'
      have hl : (s.extract 0 (n * z)).size = n * z := by rw [ByteArray.size_extract]; omega
      by_cases hlt : j < n * z
      · have e : ((s.extract 0 (n * z)) ++ (s.extract (n * z) ((n + 1) * z)))[j] = (s.extract 0 (n * z))[j]'(by omega) := ByteArray.getElem_append_left _
        rw [e, ByteArray.getElem_extract]
      · have e : ((s.extract 0 (n * z)) ++ (s.extract (n * z) ((n + 1) * z)))[j] = (s.extract (n * z) ((n + 1) * z))[j - (s.extract 0 (n * z)).size]'(by rw [hl, ByteArray.size_extract]; omega) := ByteArray.getElem_append_right (by omega)
        rw [e, ByteArray.getElem_extract]
        congr 1
        rw [hl]; omega
theorem cat_blocks {z n : Nat} {s : ByteArray} (h : s.size = n * z) : cat (blkOf z s) n = s := by
  rw [cat_upto z s n (by omega), ← h, extract_full]

/-! ### what is pending, counted -/
/-- how many of the first i are -/
def cntT (p : Nat → Bool) : Nat → Nat
  | 0 => 0
  | i + 1 => cntT p i + (if p i then 1 else 0)
theorem cntT_le (p : Nat → Bool) : ∀ n, cntT p n ≤ n
  | 0 => Nat.le_refl _
  | n + 1 => by have := cntT_le p n; unfold cntT; split <;> omega
theorem cntT_mono (p : Nat → Bool) {i : Nat} : ∀ {n : Nat}, i ≤ n → cntT p i ≤ cntT p n
  | 0, h => by obtain rfl : i = 0 := by omega
               exact Nat.le_refl _
  | n + 1, h => by
    by_cases e : i = n + 1
    · subst e; exact Nat.le_refl _
    · have := cntT_mono p (i := i) (n := n) (by omega)
      exact Nat.le_trans this (Nat.le_add_right _ _)
theorem cntT_lt (p : Nat → Bool) {i n : Nat} (h : i < n) (hp : p i = true) : cntT p i < cntT p n := by
  have h1 := cntT_mono p (show i + 1 ≤ n by omega)
  have h2 : cntT p (i + 1) = cntT p i + 1 := by show cntT p i + (if p i then 1 else 0) = _; rw [if_pos hp]
  omega
/-- which of the first n are, rising -/
def pendL (p : Nat → Bool) : Nat → List Nat
  | 0 => []
  | n + 1 => if p n then pendL p n ++ [n] else pendL p n
theorem pendL_length (p : Nat → Bool) : ∀ n, (pendL p n).length = cntT p n
  | 0 => rfl
  | n + 1 => by
    unfold pendL cntT
    split
    · rw [List.length_append, pendL_length p n]; rfl
    · rw [pendL_length p n]; rfl
theorem pendL_lt (p : Nat → Bool) : ∀ {n x : Nat}, x ∈ pendL p n → x < n ∧ p x = true
  | 0, x, h => by simp [pendL] at h
  | n + 1, x, h => by
    unfold pendL at h
    split at h
    · rename_i hp
      rcases List.mem_append.1 h with h | h
      · have := pendL_lt p h; exact ⟨by omega, this.2⟩
      · obtain rfl : x = n := by simpa using h
        exact ⟨by omega, hp⟩
    · have := pendL_lt p h; exact ⟨by omega, this.2⟩
theorem pendL_at (p : Nat → Bool) : ∀ {n i : Nat}, i < n → p i = true → (pendL p n)[cntT p i]? = some i
  | 0, i, h, _ => by omega
  | n + 1, i, h, hp => by
    unfold pendL
    by_cases e : i = n
    · subst e
      rw [if_pos hp, List.getElem?_append_right (by rw [pendL_length]; exact Nat.le_refl _), pendL_length, Nat.sub_self]; rfl
    · have := pendL_at p (n := n) (by omega) hp
      split
      · rw [List.getElem?_append_left (by rw [pendL_length]; exact cntT_lt p (by omega) hp)]; exact this
      · exact this
/-- what stands at the count of i is beyond i, if i is not pending -/
theorem pendL_not (p : Nat → Bool) {n i : Nat} (h : i < n) (hp : p i = false) : (pendL p n)[cntT p i]? ≠ some i := fun h2 => by
  have hm := List.mem_of_getElem? h2
  have := (pendL_lt p hm).2
  rw [hp] at this; cases this
theorem pendL_none {p : Nat → Bool} : ∀ {n : Nat}, (∀ i < n, p i = false) → pendL p n = []
  | 0, _ => rfl
  | n + 1, h => by
    unfold pendL
    rw [if_neg (by rw [h n (by omega)]; exact Bool.false_ne_true)]
    exact pendL_none fun i hi => h i (by omega)
theorem pendL_congr {p q : Nat → Bool} : ∀ {n : Nat}, (∀ i < n, p i = q i) → pendL p n = pendL q n
  | 0, _ => rfl
  | n + 1, h => by unfold pendL; rw [pendL_congr fun i hi => h i (by omega), h n (by omega)]
theorem cntT_congr {p q : Nat → Bool} : ∀ {n : Nat}, (∀ i < n, p i = q i) → cntT p n = cntT q n
  | 0, _ => rfl
  | n + 1, h => by unfold cntT; rw [cntT_congr fun i hi => h i (by omega), h n (by omega)]

/-! ### what a crash leaves -/
/-- P6.4: block i behind a crash -/
def crashAt (now was : Nat → ByteArray) (p : Nat → Bool) (keep : Nat → Bool) (i : Nat) : ByteArray := if p i && keep (cntT p i) then now i else was i
theorem crash_none (now was : Nat → ByteArray) (p : Nat → Bool) (i : Nat) : crashAt now was p (fun _ => false) i = was i := by unfold crashAt; simp
theorem crash_all {now was : Nat → ByteArray} {p keep : Nat → Bool} {i : Nat} (h : p i = false → now i = was i) (hk : keep (cntT p i) = true) : crashAt now was p keep i = now i := by
  unfold crashAt
  cases hp : p i with
  | true => simp [hk]
  | false => simp [h hp]
theorem crash_size {now was : Nat → ByteArray} {p keep : Nat → Bool} {i z : Nat} (h1 : (now i).size = z) (h2 : (was i).size = z) : (crashAt now was p keep i).size = z := by
  unfold crashAt; split <;> assumption
end Go.Proofs.YtanghmogeiiooaaGreatDoor
