/- ContainsAny of a zero byte and a slash, whatever bytes a name has. -/
import Derived.Test.YtgjcdjcngepleaaDoorEMath
import Derived.Test.YtgjcdjcngepleaaDoorBase
import Derived.Test.YtgjcdjcngepleaaDoorEShelf
import Derived.Laws.RangeAny
import Derived.Laws.Runes
import Derived.WalkMore
import Derived.Deep.LoopGhost
namespace Go.Proofs.YtgjcdjcngepleaaDoor
set_option linter.unusedVariables false
open Go.RowKit

theorem rune_low (r : Int) (h0 : 0 ≤ r) (h1 : r < 128) (w : World) :
    Calls Tryd.prog 41 #[.string ⟨#[0, 47]⟩, .int .i32 r] w fun e w' => e = .returned (.int .i64 (Lib.indexByte [0, 47] r.toNat.toUInt8)) ∧ w' = w :=
  Any.strings_IndexRune_ascii { Tryd.contAny with } ⟨#[0, 47]⟩ r w h0 h1
theorem byte_two (c : Int) (w : World) : Calls Tryd.prog 51 #[.string ⟨#[]⟩, .int .u8 c] w fun e w' => e = .returned (.int .i64 (-1)) ∧ Below w.heap.size w w' :=
  (Any.strings_IndexByte { Tryd.contAny with } ⟨#[]⟩ c w).mono fun e w' ⟨h1, h2⟩ => ⟨h1, h2 ▸ Below.refl _ _⟩
theorem rune_valid (r : Int) (h : 128 ≤ r) (w : World) : Calls Tryd.prog 52 #[.int .i32 r] w fun e w' => e = .returned (.bool (Utf8.valid r)) ∧ w = w' := by
  rw [validRune_eq]
  unfold validRune
  have z0 : 0 ≤ r := by omega
  by_cases h1 : r < 55296
  · have HR : Hid (decide ((0 ≤ r ∧ r < 55296) ∨ (57343 < r ∧ r ≤ 1114111)) = true) := Lib.hid (decide_eq_true (.inl ⟨z0, h1⟩))
    rw [HR.out]
    go_enter Tryd.func52, Tryd.ntmps52
    go_wp2
    go_ret
    exact ⟨rfl, rfl⟩
  · by_cases h2 : 57343 < r
    · by_cases h3 : r ≤ 1114111
      · have HR : Hid (decide ((0 ≤ r ∧ r < 55296) ∨ (57343 < r ∧ r ≤ 1114111)) = true) := Lib.hid (decide_eq_true (.inr ⟨h2, h3⟩))
        rw [HR.out]
        go_enter Tryd.func52, Tryd.ntmps52
        go_wp2
        go_ret
        exact ⟨rfl, rfl⟩
      · have HR : Hid (decide ((0 ≤ r ∧ r < 55296) ∨ (57343 < r ∧ r ≤ 1114111)) = false) := Lib.hid (decide_eq_false (by omega))
        rw [HR.out]
        go_enter Tryd.func52, Tryd.ntmps52
        go_wp2
        go_ret
        exact ⟨rfl, rfl⟩
    · have HR : Hid (decide ((0 ≤ r ∧ r < 55296) ∨ (57343 < r ∧ r ≤ 1114111)) = false) := Lib.hid (decide_eq_false (by omega))
      rw [HR.out]
      go_enter Tryd.func52, Tryd.ntmps52
      go_wp2
      go_ret
      exact ⟨rfl, rfl⟩
set_option maxRecDepth 100000 in
set_option maxHeartbeats 8000000 in
theorem rune_high (r : Int) (h : 128 ≤ r) (h2 : r ≤ 2147483647) (w : World) :
    Calls Tryd.prog 41 #[.string ⟨#[0, 47]⟩, .int .i32 r] w fun e w' => e = .returned (.int .i64 (-1)) ∧ Below w.heap.size w w' := by
  have mixed : Tryd.prog.follows .mixedOrders = true := by kernel_rfl
  have z1 : ¬ r < 128 := by omega
  have z0 : 0 ≤ r := by omega
  by_cases he : r = 65533
  · subst he
    clear z1 z0 h h2
    go_enter Tryd.func41, Tryd.ntmps41
    go_wp2
    go_loopg [5, 6] 2 (fun g _ _ wx => ∃ i : Nat, i + g = 2 ∧ wx = w.iter ⟨#[0, 47]⟩ i)
    case atStart => exact ⟨0, by omega, rfl⟩
    case round =>
      obtain ⟨i, hig, rfl⟩ := hrel
      cases gk with
      | zero =>
        obtain rfl : i = 2 := by omega
        have hnx := run_next_end (P := Tryd.prog) w ⟨#[0, 47]⟩ 2
        go_wp2
        go_ret
        exact ⟨rfl, balloc1 w _⟩
      | succ g =>
        have hi : i < (⟨#[0, 47]⟩ : ByteArray).size := by show i < 2; omega
        obtain ⟨x, hx⟩ : ∃ x : UInt8, (⟨#[0, 47]⟩ : ByteArray)[i]'hi = x := ⟨_, rfl⟩
        have hx128 : x.toNat < 128 := by
          rw [← hx]
          have hi2 : i = 0 ∨ i = 1 := by omega
          rcases hi2 with rfl | rfl
          · show (0 : UInt8).toNat < 128; decide
          · show (47 : UInt8).toNat < 128; decide
        have hnx := fun ty => run_next_ascii (P := Tryd.prog) w ⟨#[0, 47]⟩ i ty hi (by rw [hx]; exact hx128)
        rw [hx] at hnx
        have t1 : ((x.toNat : Int) == 65533) = false := by rw [beq_eq_false_iff_ne]; omega
        clear hx hi
        go_wp2
        go_roundg g
        case measure => omega
        case rel => exact ⟨i + 1, by omega, rfl⟩
  · have e0 : (r == 65533) = false := by rw [beq_eq_false_iff_ne]; exact he
    have V := fun w => rune_valid r h w
    cases hv : Utf8.valid r with
    | false =>
      rw [hv] at V
      have V := Lib.hid V
      clear hv
      go_enter Tryd.func41, Tryd.ntmps41
      go_wp2_with fail
      refine (V.out _).mono ?_; rintro e w1 ⟨rfl, rfl⟩
      go_wp2
      go_ret
      exact ⟨rfl, Below.refl _ _⟩
    | true =>
      obtain ⟨n1, n2, n3⟩ := encode_facts r hv h
      rw [hv] at V
      have V := Lib.hid V
      have B := Lib.hid byte_two
      obtain ⟨E, hE⟩ : ∃ E, Utf8.encode r = E := ⟨_, rfl⟩
      rw [hE] at n1 n2 n3
      clear hv
      go_enter Tryd.func41, Tryd.ntmps41
      go_wp2_with fail
      refine (V.out _).mono ?_; rintro e w1 ⟨rfl, rfl⟩
      go_wp2
      go_step3
      go_wp2
      clear V hE
      go_loopw [9] (fun p wx => p = .int .i64 ((E.size : Int) - 1) ∧ wx = w) (fun _ _ => 0)
      case atStart => exact ⟨rfl, rfl⟩
      case round =>
        obtain ⟨rfl, rfl⟩ := hrel
        by_cases h3 : E.size = 2
        · have n4 := n3 (by omega)
          have hl1 : 1 < E.size := by omega
          obtain ⟨x, hx⟩ : ∃ x : UInt8, E[1]'hl1 = x := ⟨_, rfl⟩
          have hx1 : 128 ≤ x.toNat := by rw [← hx]; simp only [h3] at n4; exact n4
          have hx2 := x.toNat_lt
          rw [show ((E.size : Int) - 1) = 1 by omega]
          have t1 : ((47 : Int) == (x.toNat : Int)) = false := by rw [beq_eq_false_iff_ne]; omega
          have t2 : ((((⟨#[0, 47]⟩ : ByteArray)[1]'(by decide)).toNat : Int) != (x.toNat : Int)) = true := by
            rw [bne, show ((((⟨#[0, 47]⟩ : ByteArray)[1]'(by decide)).toNat : Int)) = 47 from rfl, t1]; rfl
          clear n3 n4 h3
          go_wp2
          go_step3
          go_wp2
          refine wp_region_quiet_below mixed (by kernel_rfl) ?_
          repeat (go_big_quiet_step (fail))
          refine wpQuiet_nil ?_
          intro w0q hw'
          obtain ⟨⟨wq, bq⟩, hw''⟩ := hw'
          have hw2 : wq = w0q := hw''.symm
          clear hw''
          subst hw2
          have bq1 := bq
          go_wp2
          refine wp_region_quiet_below mixed (by kernel_rfl) ?_
          repeat (go_big_quiet_step (first | (go_at_call 51; refine calls_below (B.out _ _))))
          refine wpQuiet_nil ?_
          intro w0q hw'
          obtain ⟨⟨wq, bq⟩, hw''⟩ := hw'
          have hw2 : wq = w0q := hw''.symm
          clear hw''
          subst hw2
          go_wp2
          simp (config := { zetaDelta := true }) only [Exit.noGoto_ret, Exit.inBlock, Exit.then]
          go_ret
          exact ⟨rfl, bnext bq1 bq⟩
        · have t1 : ¬ ((E.size : Int) - 1 < 2) := by omega
          clear n3
          go_wp2
          go_ret
          exact ⟨rfl, Below.refl _ _⟩
theorem decode_span (s : ByteArray) (pos : Nat) (h : pos < s.size) : 1 ≤ (Utf8.decode s pos).2 ∧ pos + (Utf8.decode s pos).2 ≤ s.size ∧ ∀ t, 1 ≤ t → t < (Utf8.decode s pos).2 → 128 ≤ (s.get! (pos + t)).toNat := by
  unfold Utf8.decode
  simp only [Bool.and_eq_true, decide_eq_true_eq, beq_iff_eq]
  repeat' split
  all_goals (refine ⟨by simp, ?_, fun t h1 h2 => ?_⟩)
  all_goals (simp only [] at *)
  all_goals first
    | omega
    | (rename_i hq _
       have ht : t = 1 ∨ t = 2 ∨ t = 3 := by omega
       rcases ht with rfl | rfl | rfl <;> omega)
/-- none of the first i bytes is barred -/
def Clear (s : ByteArray) (i : Nat) : Prop := ∀ j (h : j < s.size), j < i → charOk s[j]
theorem clear_all {s : ByteArray} (h : Clear s s.size) : ∀ c ∈ s.data.toList, charOk c := fun c hc => by
  obtain ⟨j, hj, rfl⟩ := List.getElem_of_mem hc
  have hj' : j < s.size := by rw [bsize] at hj; exact hj
  exact h j hj' hj'
theorem bar_one (c : UInt8) : decide (0 ≤ Lib.indexByte [0, 47] c) = !decide (charOk c) := by
  rw [← Lib.contains_iff_indexByte]
  unfold charOk
  rw [Bool.eq_iff_iff]
  simp only [List.contains_cons, List.contains_nil, Bool.or_false, Bool.or_eq_true, beq_iff_eq, Bool.not_eq_true', decide_eq_false_iff_not]
  constructor
  · rintro (h | h) <;> simp [h]
  · intro h
    have h : ¬ (c ≠ 0 ∧ c ≠ 47) := of_decide_eq_false h
    by_cases h0 : c = 0
    · exact .inl h0
    · by_cases h1 : c = 47
      · exact .inr h1
      · exact absurd ⟨h0, h1⟩ h
/-! ### the iterator over a text, wherever it lies -/
def setIter (w : World) (g : Nat) (s : ByteArray) (p : Nat) : World := { w with heap := w.heap.setIfInBounds g (.stringIter s p) }
theorem setIter_at (w : World) {g : Nat} (hg : g < w.heap.size) (s : ByteArray) (p : Nat) : (setIter w g s p).heap[g]? = some (.stringIter s p) := by
  show (w.heap.setIfInBounds g _)[g]? = _
  rw [Array.getElem?_setIfInBounds_self_of_lt hg]
theorem setIter_below {B g : Nat} {w a : World} (h : Below B w a) (hB : B ≤ w.heap.size) (hg : B ≤ g) (s : ByteArray) (p : Nat) : Below B w (setIter a g s p) :=
  h.trans ⟨rfl, rfl, rfl, by show _ ≤ (a.heap.setIfInBounds g _).size; simp, fun k hk => by
    show (a.heap.setIfInBounds g _)[k]? = _
    rw [Array.getElem?_setIfInBounds_ne (by omega)]⟩
theorem next_at (w : World) (g : Nat) (s : ByteArray) (pos : Nat) (ty : TypeId) (hg : w.heap[g]? = some (.stringIter s pos)) (h : pos < s.size) :
    (Instr.next (.pointer (some ⟨g, 0, none⟩)) true ty).run Tryd.prog w = .ok (.tuple #[.bool true, .int .i64 pos, .int .i32 (Utf8.decode s pos).1]) (setIter w g s (pos + (Utf8.decode s pos).2)) := by
  have hlt := (Array.getElem?_eq_some_iff.1 hg).1
  simp only [Instr.next, getObj, setObj, Sem.run_bind, Sem.run, hg, Result.andThen, h, if_true]
  simp [goInt, setIter]
theorem next_over (w : World) (g : Nat) (s : ByteArray) (pos : Nat) (ty : TypeId) (hg : w.heap[g]? = some (.stringIter s pos)) (h : ¬ pos < s.size) :
    (Instr.next (.pointer (some ⟨g, 0, none⟩)) true ty).run Tryd.prog w = .ok (.tuple #[.bool false]) w := by
  simp [Instr.next, getObj, Sem.run, hg, h]
set_option maxRecDepth 100000 in
set_option maxHeartbeats 8000000 in
theorem idxAny_short (s : ByteArray) (h8 : s.size ≤ 8) (w : World) :
    Calls Tryd.prog 35 #[.string s, .string ⟨#[0, 47]⟩] w fun e w' => ∃ r : Int, e = .returned (.int .i64 r) ∧ Hid (decide (0 ≤ r) = !decide (∀ c ∈ s.data.toList, charOk c)) ∧ Below w.heap.size w w' := by
  have hemp : (⟨#[0, 47]⟩ : ByteArray).toList.isEmpty = false := by rw [ByteArray.toList_eq]; rfl
  have U := Lib.hid (Any.strings_shouldUseASCIISet { Tryd.contAny with } (s.size : Int) w)
  have h8z : decide ((8 : Int) < (s.size : Int)) = false := decide_eq_false (by omega)
  have RL := Lib.hid rune_low
  have RH := Lib.hid rune_high
  have DL := Lib.hid (decode_le s)
  have DS := Lib.hid (decode_span s)
  have DH := Lib.hid (decode_high s)
  have DA := Lib.hid (decode_ascii s)
  go_enter Tryd.func35, Tryd.ntmps35
  go_wp2_with fail
  refine U.out.mono ?_; rintro e w1 ⟨rfl, rfl⟩
  rw [h8z]
  go_wp2
  go_loopg [9, 10] s.size (fun g _ _ wx => ∃ i : Nat, i + g = s.size ∧ wx.heap[w1.heap.size]? = some (.stringIter s i) ∧ Hid (Clear s i) ∧ Below w1.heap.size w1 wx)
  case atStart => exact ⟨0, by omega, World.iter_heap _ _ _, Lib.hid (fun j h hj => by omega), balloc1 _ _⟩
  case round =>
    obtain ⟨i, hig, hit, HC, hb⟩ := hrel
    have hbs := hb.size
    have hgl := (Array.getElem?_eq_some_iff.1 hit).1
    cases gk with
    | zero =>
      obtain rfl : i = s.size := by omega
      have hnx := fun ty => next_over _ _ s s.size ty hit (by omega)
      go_wp2
      go_ret
      exact ⟨_, rfl, Lib.hid (by rw [decide_eq_true (clear_all HC.out)]; rfl), hb⟩
    | succ g =>
      have hi : i < s.size := by omega
      have hnx := fun ty => next_at _ _ s i ty hit hi
      obtain ⟨x, hx⟩ : ∃ x : UInt8, s[i]'hi = x := ⟨_, rfl⟩
      obtain ⟨d1, d2, d3⟩ := DS.out i hi
      have dl := DL.out i
      by_cases hx128 : x.toNat < 128
      · have da := DA.out i hi (by rw [hx]; exact hx128)
        rw [hx] at da
        rw [da] at hnx d1 d2 dl
        dsimp only at *
        have hb2 := setIter_below hb (Nat.le_refl _) (Nat.le_refl w1.heap.size) s (i + 1)
        have hit2 := setIter_at _ hgl s (i + 1)
        obtain ⟨w2, hw2⟩ : ∃ w2, setIter wr w1.heap.size s (i + 1) = w2 := ⟨_, rfl⟩
        rw [hw2] at hb2 hit2 hnx
        have R := RL.out (x.toNat : Int) (by omega) (by omega) w2
        have hback : ((x.toNat : Int)).toNat.toUInt8 = x := by simp
        rw [hback] at R
        have hcon := bar_one x
        generalize Lib.indexByte [0, 47] x = ri at *
        by_cases hk : charOk x
        · rw [decide_eq_true hk] at hcon
          have hlt : ¬ (0 : Int) ≤ ri := of_decide_eq_false hcon
          have R := Lib.hid R
          have HC2 : Hid (Clear s (i + 1)) := Lib.hid (fun j h hj => by
            by_cases e : j = i
            · subst e; rw [hx]; exact hk
            · exact HC.out j h (by omega))
          clear hcon hx d3 da hk hback hw2
          go_wp2_with fail
          refine R.out.mono ?_; rintro e w3 ⟨rfl, rfl⟩
          go_wp2
          go_roundg g
          case measure => omega
          case rel => exact ⟨i + 1, by omega, hit2, HC2, hb2⟩
        · rw [decide_eq_false hk] at hcon
          have hge : (0 : Int) ≤ ri := of_decide_eq_true hcon
          have R := Lib.hid R
          have HB : Hid (decide (0 ≤ (i : Int)) = !decide (∀ c ∈ s.data.toList, charOk c)) := Lib.hid (by
            rw [decide_eq_true (by omega : 0 ≤ (i : Int)), eq_comm, Bool.not_eq_true', decide_eq_false_iff_not]
            intro h
            exact hk (by rw [← hx]; exact h _ (Array.getElem_mem_toList (xs := s.data) hi)))
          clear hcon hx d3 da hk hback hw2
          go_wp2_with fail
          refine R.out.mono ?_; rintro e w3 ⟨rfl, rfl⟩
          go_wp2
          go_ret
          exact ⟨_, rfl, HB, hb2⟩
      · obtain ⟨dh, _⟩ := DH.out i hi (by rw [hx]; omega)
        have HC2 : Hid (Clear s (i + (Utf8.decode s i).2)) := Lib.hid (fun j h hj => by
          by_cases e2 : j < i
          · exact HC.out j h e2
          have hall : 128 ≤ s[j].toNat := by
            by_cases e : j = i
            · subst e; rw [hx]; omega
            · have := d3 (j - i) (by omega) (by omega)
              rw [show i + (j - i) = j + 0 by omega, get_at s j h] at this
              exact this
          exact ⟨fun e => by rw [e] at hall; exact absurd hall (by decide), fun e => by rw [e] at hall; exact absurd hall (by decide)⟩)
        obtain ⟨⟨c, wd⟩, hcw⟩ : ∃ q, Utf8.decode s i = q := ⟨_, rfl⟩
        rw [hcw] at HC2 hnx d1 d2 dl dh
        dsimp only at *
        have hb2 := setIter_below hb (Nat.le_refl _) (Nat.le_refl w1.heap.size) s (i + wd)
        have hit2 := setIter_at _ hgl s (i + wd)
        have hz2 : (setIter wr w1.heap.size s (i + wd)).heap.size = wr.heap.size := by show (wr.heap.setIfInBounds _ _).size = _; simp
        obtain ⟨w2, hw2⟩ : ∃ w2, setIter wr w1.heap.size s (i + wd) = w2 := ⟨_, rfl⟩
        rw [hw2] at hb2 hit2 hnx hz2
        have R := Lib.hid (RH.out (c : Int) (by omega) (by omega) w2)
        clear hcw d3 hw2 hx
        go_wp2_with fail
        refine R.out.mono ?_; rintro e w3 ⟨rfl, b3⟩
        have hb3 := bnext hb2 b3
        have hit3 := (b3.block _ (by omega)).trans hit2
        go_wp2
        go_roundg (s.size - (i + wd))
        case measure => omega
        case rel => exact ⟨i + wd, by omega, hit3, HC2, hb3⟩
end Go.Proofs.YtgjcdjcngepleaaDoor
