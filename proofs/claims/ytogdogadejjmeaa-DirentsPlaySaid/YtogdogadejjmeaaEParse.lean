/- Parse, Find, Room, Insert, Remove. -/
import Derived.Test.YtogdogadejjmeaaEPack
import Derived.Test.YtogdogadejjmeaaERead
import Derived.Test.YtogdogadejjmeaaEDel
namespace Go.Proofs.Ytogdogadejjmeaa
set_option linter.unusedVariables false
open Go.RowKit

/-! ### what they answer -/
def listP (b : ByteArray) : List Den := if IsDir b then listOf b else []
def errP (b : ByteArray) : Int := if IsDir b then 0 else 80
theorem listP_ok (b : ByteArray) : ListOk (listP b) := by
  unfold listP
  split
  · rename_i h; exact (isDir_list h).1
  · exact nil_ok
theorem listP_yes {b : ByteArray} (h : IsDir b) : listP b = listOf b := by unfold listP; rw [if_pos h]
theorem listP_no {b : ByteArray} (h : ¬ IsDir b) : listP b = [] := by unfold listP; rw [if_neg h]
theorem errP_yes {b : ByteArray} (h : IsDir b) : errP b = 0 := by unfold errP; rw [if_pos h]
theorem errP_no {b : ByteArray} (h : ¬ IsDir b) : errP b = 80 := by unfold errP; rw [if_neg h]
theorem used_long : ∀ (l : List Den), l.length * 5 ≤ used l
  | [] => by simp
  | d :: l => by have := used_long l; simp [used, denLen]; omega
theorem listOk_fit {l : List Den} (h : ListOk l) : fitD l ∧ l.length ≤ 128 ∧ used l ≤ 128 := by
  have := used_long l
  refine ⟨fun d hd => ⟨by have := (h.1 d hd).1.2; omega, ?_⟩, by have := h.2.2.2; omega, h.2.2.2⟩
  have := h.2.1 d hd
  exact ⟨by have := this.1; omega, by have := this.2; omega⟩
theorem read_fit : ∀ (n : Nat) (x : List UInt8), x.length = n → used (readL x) ≤ n ∧ ∀ d ∈ readL x, d.name.size ≤ n ∧ InoIn d.ino := by
  intro n
  induction n using Nat.strongRecOn with
  | ind n ih =>
    intro x hx
    cases x with
    | nil => simp [readL, used]
    | cons c r =>
      rw [readL]
      have hr : r.length + 1 = n := by rw [← hx]; simp
      by_cases h0 : c = 0
      · rw [if_pos h0]; simp [used]
      · rw [if_neg h0]
        by_cases h1 : 4 + c.toNat ≤ r.length
        · rw [if_pos h1]
          obtain ⟨i1, i2⟩ := ih (r.drop (4 + c.toNat)).length (by rw [List.length_drop]; omega) _ rfl
          rw [List.length_drop] at i1 i2
          have hz : (bs ((r.drop 4).take c.toNat)).size = c.toNat := by rw [bs_size, List.length_take, List.length_drop]; omega
          have hl : leN (r.take 4) < 4294967296 := by
            have := leN_lt (r.take 4)
            rw [List.length_take, Nat.min_eq_left (by omega)] at this
            exact this
          refine ⟨?_, fun d hd => ?_⟩
          · show denLen _ + used _ ≤ n
            unfold denLen
            dsimp only
            rw [hz]; omega
          · rcases List.mem_cons.1 hd with rfl | hd
            · exact ⟨by dsimp only; rw [hz]; omega, by unfold InoIn; dsimp only; omega⟩
            · exact ⟨by have := (i2 d hd).1; omega, (i2 d hd).2⟩
        · rw [if_neg h1]; simp [used]
theorem readB_fit {b : ByteArray} (h : b.size ≤ 2000) : fitD (readB b) ∧ (readB b).length ≤ 2000 ∧ used (readB b) ≤ 2000 := by
  obtain ⟨h1, h2⟩ := read_fit _ b.data.toList rfl
  rw [bsize] at h1 h2
  have := used_long (readB b)
  refine ⟨fun d hd => ⟨by have := (h2 d hd).1; omega, ?_⟩, by unfold readB at *; omega, by unfold readB; omega⟩
  have := (h2 d hd).2
  exact ⟨by have := this.1; omega, by have := this.2; omega⟩
set_option maxHeartbeats 4000000 in
theorem parse_any (b : ByteArray) (hb : b.size ≤ 2000) (w : World) :
    Calls Try.prog 14 #[.string b] w fun e w' => ∃ v, e = .returned (.tuple #[v, .int .i64 (errP b)]) ∧ DensAt w.heap.size v (listP b) w' ∧ Below w.heap.size w w' := by
  by_cases hz : b.size = 128
  · have t0 : ((b.size : Int) == 128) = true := by rw [beq_iff_eq]; omega
    have R := read_any b (by omega) w
    obtain ⟨f1, f2, f3⟩ := readB_fit hb
    have P := fun v w hv => pack_any (readB b) (by omega) f1 (by omega) v w hv
    by_cases hE : packE (readB b) = 0
    · by_cases hP : pack (readB b) = b
      · have hd : IsDir b := (isDir_read b).2 ⟨hE, hP⟩
        have hl : readB b = listP b := by rw [readB_dir hd, listP_yes hd]
        have P : ∀ v w, DensIn v (readB b) w → Calls Try.prog 10 #[v] w fun e w' => e = .returned (.tuple #[.string b, .int .i64 0]) ∧ Below w.heap.size w w' := fun v w hv => by
          have := P v w hv
          unfold packRet packS at this
          rwa [if_pos hE, hE, hP] at this
        rw [errP_yes hd, ← hl]
        have t1 : (b.toList == b.toList) = true := by simp
        generalize readB b = L at *
        have R := Lib.hid R
        have P := Lib.hid P
        clear hE hP hd hl f1 f2 f3
        go_enter Try.func14, Try.ntmps14
        go_wp2_with fail
        refine R.out.mono ?_; rintro e w1 ⟨v, rfl, hv, b1⟩
        obtain ⟨ad, cap, rfl, -⟩ := shape_of hv
        go_wp2_with fail
        refine (P.out _ _ (densAt_in hv)).mono ?_; rintro e w2 ⟨rfl, b2⟩
        have hv2 := row_kept hv b2
        have hb2 := bnext b1 b2
        clear hv b2
        go_wp2
        go_ret2
        exact ⟨_, rfl, hv2, hb2⟩
      · have hd : ¬ IsDir b := fun h => hP ((isDir_read b).1 h).2
        have P : ∀ v w, DensIn v (readB b) w → Calls Try.prog 10 #[v] w fun e w' => e = .returned (.tuple #[.string (pack (readB b)), .int .i64 0]) ∧ Below w.heap.size w w' := fun v w hv => by
          have := P v w hv
          unfold packRet packS at this
          rwa [if_pos hE, hE] at this
        rw [errP_no hd, listP_no hd]
        have t1 : ((pack (readB b)).toList == b.toList) = false := by rw [str_beq]; exact decide_eq_false hP
        generalize pack (readB b) = S at *
        generalize readB b = L at *
        have R := Lib.hid R
        have P := Lib.hid P
        clear hE hP hd f1 f2 f3
        go_enter Try.func14, Try.ntmps14
        go_wp2_with fail
        refine R.out.mono ?_; rintro e w1 ⟨v, rfl, hv, b1⟩
        obtain ⟨ad, cap, rfl, -⟩ := shape_of hv
        go_wp2_with fail
        refine (P.out _ _ (densAt_in hv)).mono ?_; rintro e w2 ⟨rfl, b2⟩
        have hb2 := bnext b1 b2
        clear hv b2
        go_wp2
        go_ret2
        exact ⟨_, rfl, World.ownsRow_nil _ _ _ _, hb2⟩
    · have hd : ¬ IsDir b := fun h => hE ((isDir_read b).1 h).1
      unfold packRet at P
      rw [errP_no hd, listP_no hd]
      have t1 : (packE (readB b) != 0) = true := by rw [bne_iff_ne]; exact hE
      generalize packS (readB b) = S at *
      generalize packE (readB b) = E at *
      generalize readB b = L at *
      have R := Lib.hid R
      have P := Lib.hid P
      clear hd f1 f2 f3
      go_enter Try.func14, Try.ntmps14
      go_wp2_with fail
      refine R.out.mono ?_; rintro e w1 ⟨v, rfl, hv, b1⟩
      obtain ⟨ad, cap, rfl, -⟩ := shape_of hv
      go_wp2_with fail
      refine (P.out _ _ (densAt_in hv)).mono ?_; rintro e w2 ⟨rfl, b2⟩
      have hb2 := bnext b1 b2
      clear hv b2
      go_wp2
      go_ret2
      exact ⟨_, rfl, World.ownsRow_nil _ _ _ _, hb2⟩
  · have hd : ¬ IsDir b := fun h => hz (isDir_size h)
    rw [errP_no hd, listP_no hd]
    have t0 : ((b.size : Int) == 128) = false := by rw [beq_eq_false_iff_ne]; omega
    clear hd hz
    go_enter Try.func14, Try.ntmps14
    go_wp2
    go_ret2
    exact ⟨_, rfl, World.ownsRow_nil _ _ _ _, Below.refl _ _⟩

/-! ### Find -/
def findN (b s : ByteArray) : Int := (findD (listP b) s).getD 0
theorem idx_cases (l : List Den) (s : ByteArray) :
    (findD l s = none ∧ ¬ Has l s ∧ idxD (fun d => decide (d.name = s)) l = -1) ∨
    ∃ k, k < l.length ∧ idxD (fun d => decide (d.name = s)) l = (k : Int) ∧ findD l s = some (dat l k).ino ∧ (dat l k).name = s := by
  cases h : l.findIdx? (fun d => decide (d.name = s)) with
  | none =>
    refine .inl ⟨?_, ?_, ?_⟩
    · apply find_none
      intro hm
      obtain ⟨d, hd, he⟩ := has_mem hm
      rw [List.findIdx?_eq_none_iff] at h
      have := h d hd
      simp [he] at this
    · intro hm
      obtain ⟨d, hd, he⟩ := has_mem hm
      rw [List.findIdx?_eq_none_iff] at h
      have := h d hd
      simp [he] at this
    · unfold idxD; rw [h]
  | some k =>
    rw [List.findIdx?_eq_some_iff_getElem] at h
    obtain ⟨hk, h1, h2⟩ := h
    refine .inr ⟨k, hk, ?_, ?_, ?_⟩
    · exact idxD_hit hk (fun j hj => by rw [dat_eq (by omega)]; have := h2 j hj; simpa using this) (by rw [dat_eq hk]; exact h1)
    · unfold findD
      have : l.find? (fun d => decide (d.name = s)) = some l[k] := by
        rw [List.find?_eq_some_iff_getElem]
        exact ⟨h1, k, hk, rfl, fun j hj => by have := h2 j hj; simpa using this⟩
      rw [this, dat_eq hk]; rfl
    · rw [dat_eq hk]; exact of_decide_eq_true h1
theorem named_ent : ∀ args w, (callFunc 49 args).run Try.prog w = .ok (.enter 49 args) w := enters_of Try.func49 (by kernel_rfl) rfl
/-- IndexFunc by the closure that named has made -/
theorem idx_named (l : List Den) (s : ByteArray) (v : Value) (w : World) (hv : DensIn v l w) :
    Calls Try.prog 31 #[v, .func (.func 49) #[] #[.pointer (some ⟨w.heap.size, 0, none⟩)]] (w.alloc (.cells #[.string s] 9))
      fun e w' => e = .returned (.int .i64 (idxD (fun d => decide (d.name = s)) l)) ∧ Below w.heap.size w w' := by
  have hb := balloc1 w (.cells #[.string s] 9)
  have hB : w.heap.size < (w.alloc (.cells #[.string s] 9)).heap.size := by rw [size_alloc]; omega
  have hc : (w.alloc (.cells #[.string s] 9)).cell? ⟨w.heap.size, 0, none⟩ = some (.string s) := (Blk.new #[.string s] 9 w).cell 0
  refine (idx_any l 49 #[.pointer (some ⟨w.heap.size, 0, none⟩)] (fun d => decide (d.name = s)) v _ (hv.kept hb) named_ent (fun d hd W hW => ?_)).mono fun e w' ⟨he, hb2⟩ => ⟨he, bnext hb hb2⟩
  exact named_clo d s w.heap.size W (Nat.lt_of_lt_of_le hB hW.size) ((hW.cell (p := ⟨w.heap.size, 0, none⟩) hB).trans hc)
set_option maxHeartbeats 4000000 in
theorem find_any (b : ByteArray) (hb : b.size ≤ 2000) (s : ByteArray) (w : World) :
    Calls Try.prog 16 #[.string b, .string s] w fun e w' => e = .returned (.tuple #[.int .i64 (findN b s), .bool (findD (listP b) s).isSome]) ∧ Below w.heap.size w w' := by
  have P := Lib.hid (parse_any b hb w)
  have N := Lib.hid (named_any s)
  have I := fun v w hv => idx_named (listP b) s v w hv
  unfold findN
  generalize errP b = E at *
  rcases idx_cases (listP b) s with ⟨h1, -, h2⟩ | ⟨k, hk, h2, h1, -⟩
  · rw [h1]
    rw [h2] at I
    generalize listP b = L at *
    have I := Lib.hid I
    clear h1 h2
    go_enter Try.func16, Try.ntmps16
    go_wp2_with fail
    refine P.out.mono ?_; rintro e w1 ⟨v, rfl, hv, b1⟩
    obtain ⟨ad, cap, rfl, -⟩ := shape_of hv
    go_wp2_with fail
    refine (N.out _).mono ?_; rintro e w2 ⟨rfl, rfl⟩
    go_wp2_with fail
    refine (I.out _ _ (densAt_in hv)).mono ?_; rintro e w3 ⟨rfl, b3⟩
    have hb3 := bnext b1 b3
    clear hv b3
    go_wp2
    go_ret2
    exact ⟨rfl, hb3⟩
  · rw [h1]
    rw [h2] at I
    have hdat : ∀ w, DensIn (.slice none 0 0) [] w → True := fun _ _ => trivial
    have HD : Hid (∀ v w, DensAt w.heap.size v (listP b) w → True) := Lib.hid fun _ _ _ => trivial
    obtain ⟨D, hD⟩ : ∃ D, D = dat (listP b) k := ⟨_, rfl⟩
    rw [← hD]
    have HC : Hid (∀ (w0 w2 : World) (B n : Nat) (ad : Option Addr) (cap : Nat), DensAt B (.slice ad n cap) (listP b) w0 → Below w0.heap.size w0 w2 → n = (listP b).length ∧ ∃ g, ad = some ⟨g, 0, none⟩ ∧ w2.cell? ⟨g, k * 2 + 1, none⟩ = some (.int .i64 D.ino)) := Lib.hid fun w0 w2 B n ad cap h hb2 => by
      obtain ⟨ad', cap', e, q1, q2, q3, q4⟩ := densIn_cells (densAt_in h)
      injection e with e1 e2 e3
      subst e1; subst e2; subst e3
      obtain ⟨_, _, e', _, _, q5⟩ := shape_of h
      injection e' with e1' _ _
      subst e1'
      obtain ⟨g, rfl, _⟩ := q5 (by omega)
      obtain ⟨g', o, e6, q6, q7⟩ := q3 (by omega)
      injection e6 with e6; injection e6 with e6 e7 _
      subst e6; subst e7
      have := (q7 w2 hb2 k hk).2
      rw [Nat.zero_add, ← hD] at this
      exact ⟨rfl, g, rfl, this⟩
    have I := Lib.hid I
    generalize listP b = L at *
    have hk2 : (k : Int) < (L.length : Int) := by omega
    clear h1 h2 hD hdat HD
    go_enter Try.func16, Try.ntmps16
    go_wp2_with fail
    refine P.out.mono ?_; rintro e w1 ⟨v, rfl, hv, b1⟩
    obtain ⟨ad, cap, rfl, -⟩ := shape_of hv
    go_wp2_with fail
    refine (N.out _).mono ?_; rintro e w2 ⟨rfl, rfl⟩
    go_wp2_with fail
    refine (I.out _ _ (densAt_in hv)).mono ?_; rintro e w3 ⟨rfl, b3⟩
    obtain ⟨-, g, rfl, hc⟩ := HC.out _ _ _ _ _ _ hv b3
    have hb3 := bnext b1 b3
    clear hv b3 HC
    go_wp2
    go_ret2
    exact ⟨rfl, hb3⟩
end Go.Proofs.Ytogdogadejjmeaa
