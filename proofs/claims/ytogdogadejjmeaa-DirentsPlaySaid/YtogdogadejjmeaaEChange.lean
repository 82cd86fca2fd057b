/- Room, Insert, Remove. -/
import Derived.Test.YtogdogadejjmeaaEParse
namespace Go.Proofs.Ytogdogadejjmeaa
set_option linter.unusedVariables false
open Go.RowKit

def roomP (b : ByteArray) : Int := if IsDir b then 128 - (used (listOf b) : Int) else 0
theorem room_any (b : ByteArray) (hb : b.size ≤ 2000) (w : World) :
    Calls Try.prog 18 #[.string b] w fun e w' => e = .returned (.int .i64 (roomP b)) ∧ Below w.heap.size w w' := by
  have P := parse_any b hb w
  obtain ⟨f1, f2, f3⟩ := listOk_fit (listP_ok b)
  have T := fun v w hv => taken_any (listP b) (by omega) v w hv
  unfold roomP
  by_cases hd : IsDir b
  · rw [errP_yes hd] at P
    rw [if_pos hd, ← listP_yes hd]
    have hu : used (listP b) ≤ 128 := f3
    generalize listP b = L at *
    have P := Lib.hid P
    have T := Lib.hid T
    clear hd f1 f2 f3
    go_enter Try.func18, Try.ntmps18
    go_wp2_with fail
    refine P.out.mono ?_; rintro e w1 ⟨v, rfl, hv, b1⟩
    obtain ⟨ad, cap, rfl, -⟩ := shape_of hv
    go_wp2_with fail
    refine (T.out _ _ (densAt_in hv)).mono ?_; rintro e w2 ⟨rfl, b2⟩
    have hb2 := bnext b1 b2
    clear hv b2
    go_wp2
    go_ret
    exact ⟨by first | rfl | (congr 2; omega), hb2⟩
  · rw [errP_no hd, listP_no hd] at P
    rw [if_neg hd]
    have P := Lib.hid P
    clear T hd f1 f2 f3
    go_enter Try.func18, Try.ntmps18
    go_wp2_with fail
    refine P.out.mono ?_; rintro e w1 ⟨v, rfl, hv, b1⟩
    obtain ⟨ad, cap, rfl, -⟩ := shape_of hv
    go_wp2
    go_ret
    exact ⟨rfl, b1⟩

def insS (b : ByteArray) (x : Den) : ByteArray := if IsDir b then packS (listOf b ++ [x]) else ⟨#[]⟩
def insR (b : ByteArray) (x : Den) : Int := if IsDir b then packE (listOf b ++ [x]) else 80
set_option maxHeartbeats 1000000 in
theorem insert_any (b : ByteArray) (hb : b.size ≤ 2000) (x : Den) (hx : x.name.size ≤ 100000) (hx2 : I64 x.ino) (w : World) :
    Calls Try.prog 20 #[.string b, denV x] w fun e w' => e = .returned (.tuple #[.string (insS b x), .int .i64 (insR b x)]) ∧ Below w.heap.size w w' := by
  have hb0 := balloc1 w (.cells (denC x) 25)
  have P := parse_any b hb (w.alloc (.cells (denC x) 25))
  obtain ⟨f1, f2, f3⟩ := listOk_fit (listP_ok b)
  have hcl := (den_new w x 25)
  have hsz := size_alloc w (.cells (denC x) 25)
  unfold insS insR
  by_cases hd : IsDir b
  · rw [errP_yes hd] at P
    rw [if_pos hd, if_pos hd, ← listP_yes hd]
    have K := fun v w hv => pack_any (listP b ++ [x]) (by simp; omega) (fun d hd => by
      rcases List.mem_append.1 hd with h | h
      · exact f1 d h
      · simp at h; subst h; exact ⟨by omega, hx2⟩) (by rw [used_snoc]; unfold denLen; omega) v w hv
    unfold packRet at K
    generalize packS (listP b ++ [x]) = S at *
    generalize packE (listP b ++ [x]) = E at *
    generalize listP b = L at *
    have P := Lib.hid P
    have K := Lib.hid K
    have HC := Lib.hid hcl
    obtain ⟨nm, n⟩ := x
    dsimp only at *
    clear hd f1 f3 hcl hx hx2
    go_enter Try.func20, Try.ntmps20
    go_wp2_with fail
    refine P.out.mono ?_; rintro e w1 ⟨v, rfl, hv, b1⟩
    obtain ⟨c0, c1⟩ := HC.out ⟨w1, b1⟩
    dsimp only at c0 c1
    obtain ⟨ad, cap, rfl, -⟩ := shape_of hv
    have hb1 := bnext hb0 b1
    have hs1 := b1.size
    go_wp2_with (at_builtin; refine wpList_appD rfl _ _ rfl (w.heap.size + 1) _ L ⟨nm, n⟩ rfl (World.ownsRow.alloc (row_down (by rw [hsz]; exact Nat.le_refl _) hv) _) w1 rfl rfl (by omega) (by rw [size_alloc]; omega) ?_)
    intro v5 w5 hv5 b5
    have hb5 : Below w.heap.size w w5 := (balloc hb1 _).trans (b5.mono (by omega))
    obtain ⟨ad5, cap5, e5, -⟩ := shape_of hv5
    rw [List.length_append, List.length_singleton] at e5
    subst e5
    clear hv b1 b5 hb1
    go_wp2_with fail
    refine (K.out _ _ (densAt_in hv5)).mono ?_; rintro e w6 ⟨rfl, b6⟩
    have hb6 := bnext hb5 b6
    clear hv5 b6
    go_wp2
    go_ret2
    exact ⟨rfl, hb6⟩
  · rw [errP_no hd, listP_no hd] at P
    rw [if_neg hd, if_neg hd]
    have P := Lib.hid P
    obtain ⟨nm, n⟩ := x
    dsimp only at *
    clear hd f1 f2 f3 hcl
    go_enter Try.func20, Try.ntmps20
    go_wp2_with fail
    refine P.out.mono ?_; rintro e w1 ⟨v, rfl, hv, b1⟩
    obtain ⟨ad, cap, rfl, -⟩ := shape_of hv
    have hb1 := bnext hb0 b1
    clear hv b1
    go_wp2
    go_ret2
    exact ⟨rfl, hb1⟩

/-! ### Remove -/
theorem erase_drop (s : ByteArray) : ∀ (l : List Den) (k : Nat), Apart l → k < l.length → (dat l k).name = s → l.eraseIdx k = dropD l s
  | [], k, _, h, _ => by simp at h
  | e :: l, 0, h, _, hs => by
    have hs : e.name = s := hs
    unfold Apart at h
    rw [List.map_cons, List.nodup_cons] at h
    have hn : ¬ Has l s := by rw [← hs]; exact h.1
    rw [List.eraseIdx_cons_zero]
    unfold dropD
    rw [List.filter_cons, show (!decide (e.name = s)) = false by simp [hs], if_neg (by decide)]
    exact (drop_none hn).symm
  | e :: l, k + 1, h, hk, hs => by
    have hs : (dat l k).name = s := by unfold dat at *; simpa using hs
    have hk : k < l.length := by simpa using hk
    unfold Apart at h
    rw [List.map_cons, List.nodup_cons] at h
    have hne : e.name ≠ s := fun q => h.1 (by rw [q, ← hs]; exact List.mem_map_of_mem (f := Den.name) (dat_mem hk))
    rw [List.eraseIdx_cons_succ, erase_drop s l k h.2 hk hs]
    unfold dropD
    rw [List.filter_cons, show (!decide (e.name = s)) = true by simp [hne], if_pos rfl]
def remS (b s : ByteArray) : ByteArray := if Has (listP b) s then pack (dropD (listP b) s) else b
set_option maxHeartbeats 1000000 in
theorem remove_any (b : ByteArray) (hb : b.size ≤ 2000) (s : ByteArray) (w : World) :
    Calls Try.prog 22 #[.string b, .string s] w fun e w' => e = .returned (.tuple #[.string (remS b s), .bool (decide (Has (listP b) s))]) ∧ Below w.heap.size w w' := by
  have P := Lib.hid (parse_any b hb w)
  have N := Lib.hid (named_any s)
  have I := fun v w hv => idx_named (listP b) s v w hv
  have hok := listP_ok b
  unfold remS
  generalize errP b = E at *
  rcases idx_cases (listP b) s with ⟨-, h1, h2⟩ | ⟨k, hk, h2, h3, h1⟩
  · rw [if_neg h1, decide_eq_false h1]
    rw [h2] at I
    generalize listP b = L at *
    have I := Lib.hid I
    clear h1 h2 hok
    go_enter Try.func22, Try.ntmps22
    go_wp2_with fail
    refine P.out.mono ?_; rintro e w1 ⟨v, rfl, hv, b1⟩
    obtain ⟨ad, cap, rfl, -⟩ := shape_of hv
    go_wp2_with fail
    refine (N.out _).mono ?_; rintro e w2 ⟨rfl, rfl⟩
    go_wp2_with fail
    refine (I.out _ _ (densAt_in hv)).mono ?_; rintro e w3 ⟨rfl, b3⟩
    have hb3 := bnext b1 b3
    clear hv b3
    go_wp2
    go_ret2
    exact ⟨rfl, hb3⟩
  · have hm : Has (listP b) s := (find_has _ _).1 (by rw [h3]; rfl)
    have hdrop := erase_drop s (listP b) k hok.2.2.1 hk h1
    have hok2 := drop_ok hok s
    obtain ⟨f1, f2, f3⟩ := listOk_fit hok2
    rw [if_pos hm, decide_eq_true hm]
    rw [h2] at I
    have hE := (packE_zero _).2 hok2
    have K : ∀ v w, DensIn v ((listP b).eraseIdx k) w → Calls Try.prog 10 #[v] w fun e w' => e = .returned (.tuple #[.string (pack (dropD (listP b) s)), .int .i64 0]) ∧ Below w.heap.size w w' := fun v w hv => by
      rw [hdrop] at hv
      have := pack_any (dropD (listP b) s) (by omega) f1 (by omega) v w hv
      unfold packRet packS at this
      rwa [if_pos hE, hE] at this
    have DL := fun B v w h1 h2 => delete_any (listP b) k hk B v w h1 h2
    generalize pack (dropD (listP b) s) = S at *
    have I := Lib.hid I
    have K := Lib.hid K
    have DL := Lib.hid DL
    generalize listP b = L at *
    clear h1 h2 h3 hm hdrop hok2 f1 f2 f3 hE hok
    go_enter Try.func22, Try.ntmps22
    go_wp2_with fail
    refine P.out.mono ?_; rintro e w1 ⟨v, rfl, hv, b1⟩
    obtain ⟨ad, cap, rfl, p1, p2, -⟩ := shape_of hv
    have p2 : cap ≤ 9223372036854775807 := p2
    go_wp2_with fail
    refine (N.out _).mono ?_; rintro e w2 ⟨rfl, rfl⟩
    go_wp2_with fail
    refine (I.out _ _ (densAt_in hv)).mono ?_; rintro e w3 ⟨rfl, b3⟩
    have hv3 := row_kept hv b3
    have hb3 := bnext b1 b3
    have hs3 := hb3.size
    clear hv b3 b1
    go_wp2_with fail
    refine (DL.out w.heap.size _ _ hv3 hs3).mono ?_; rintro e w4 ⟨v4, rfl, hv4, b4⟩
    have hb4 := hb3.trans b4
    obtain ⟨ad4, cap4, rfl, -⟩ := densIn_cells hv4
    clear hv3 b4 hb3 hs3
    go_wp2_with fail
    refine (K.out _ _ hv4).mono ?_; rintro e w5 ⟨rfl, b5⟩
    have hb5 := bnext hb4 b5
    clear hv4 b5
    go_wp2
    go_ret2
    exact ⟨rfl, hb5⟩
end Go.Proofs.Ytogdogadejjmeaa
