/- Rows of numbers that a law holds while the cache turns; without. -/
import Derived.Test.YticbielifcjpdaaCStep
namespace Go.Proofs.Yticbielifcjpdaa
set_option linter.unusedVariables false
open Go.RowKit

/-- v holds the numbers, in a block that no call turns -/
def FreeNats (B hi : Nat) (M : Nat → Prop) (v : Value) (L : List Nat) (w : World) : Prop :=
  ∃ (ad : Option Addr) (cap : Nat), v = .slice ad L.length cap ∧ L.length ≤ cap ∧ cap ≤ maxLen ∧ (0 < L.length → ∃ g, ad = some ⟨g, 0, none⟩ ∧ Free B hi M g w ∧ ∀ k u, (L.map natV)[k]? = some u → w.cell? ⟨g, k, none⟩ = some u) ∧ (ad = none → cap = 0)
theorem FreeNats.in {B hi : Nat} {M : Nat → Prop} {v : Value} {L : List Nat} {w : World} (h : FreeNats B hi M v L w) : NatsIn v L w := by
  obtain ⟨ad, cap, rfl, h1, h2, h3, h4⟩ := h
  refine ⟨by simp, ad, cap, rfl, h1, h2, fun hp => ?_, h4⟩
  obtain ⟨g, rfl, hf, hc⟩ := h3 (by simpa using hp)
  exact ⟨g, 0, rfl, hf.lt, fun k u hk => by rw [Nat.zero_add]; exact hc k u hk⟩
theorem FreeNats.kept {B hi : Nat} {M M' : Nat → Prop} {v : Value} {L : List Nat} {w w' : World} (h : FreeNats B hi M v L w) (f : Frees B hi M M' w w') : FreeNats B hi M' v L w' := by
  obtain ⟨ad, cap, rfl, h1, h2, h3, h4⟩ := h
  refine ⟨ad, cap, rfl, h1, h2, fun hp => ?_, h4⟩
  obtain ⟨g, rfl, hf, hc⟩ := h3 hp
  obtain ⟨f1, f2⟩ := f g hf
  exact ⟨g, rfl, f2, fun k u hk => (World.cell?_of_block (a := ⟨g, k, none⟩) f1).trans (hc k u hk)⟩
theorem FreeNats.kept1 {B hi : Nat} {M : Nat → Prop} {v : Value} {L : List Nat} {w w' : World} (h : FreeNats B hi M v L w) (b : Below w.heap.size w w') : FreeNats B hi M v L w' := by
  obtain ⟨ad, cap, rfl, h1, h2, h3, h4⟩ := h
  refine ⟨ad, cap, rfl, h1, h2, fun hp => ?_, h4⟩
  obtain ⟨g, rfl, hf, hc⟩ := h3 hp
  exact ⟨g, rfl, hf.kept1 b, fun k u hk => (b.cell (p := ⟨g, k, none⟩) hf.lt).trans (hc k u hk)⟩
theorem FreeNats.nil {B hi : Nat} {M : Nat → Prop} {w : World} : FreeNats B hi M (.slice none 0 0) [] w := ⟨none, 0, rfl, Nat.le_refl _, by unfold maxLen; omega, fun h => (by simp at h), fun _ => rfl⟩
theorem NatsAt.free {c d B hi U z : Nat} {M : Nat → Prop} {C : CS} {w0 w w1 : World} {v : Value} {L : List Nat} (h : NatsAt z v L w1) (r : Run c d B hi M U C w0 w) (hz : w.heap.size ≤ z) : FreeNats B hi M v L w1 := by
  rcases h.2 with ⟨rfl, h0⟩ | ⟨g, cap, cur, rfl, hbg, hg, hnc, hcm, hcs, htake⟩
  · have : L = [] := List.length_eq_zero_iff.1 h0
    subst this
    exact FreeNats.nil
  · refine ⟨some ⟨g, 0, none⟩, cap, rfl, hnc, hcm, fun _ => ⟨g, rfl, ⟨lt_of_block hg, fun hm => by have := r.cache.lt hm; omega, by have := r.dev.top; omega⟩, fun k u hk => ?_⟩, fun h => by cases h⟩
    have hl := (List.getElem?_eq_some_iff.1 hk).1
    rw [h.cellAt k (by rw [List.length_map] at hl; omega)]; exact hk
theorem FreeNats.shape {B hi : Nat} {M : Nat → Prop} {v : Value} {L : List Nat} {w : World} (h : FreeNats B hi M v L w) : ∃ ad cap, v = .slice ad L.length cap ∧ L.length ≤ cap ∧ cap ≤ 9223372036854775807 := by
  obtain ⟨ad, cap, rfl, h1, h2, _⟩ := h
  exact ⟨ad, cap, rfl, h1, by unfold maxLen at h2; omega⟩
theorem FreeNats.cell {B hi : Nat} {M : Nat → Prop} {ad : Option Addr} {n cap : Nat} {L : List Nat} {w : World} (h : FreeNats B hi M (.slice ad n cap) L w) {k : Nat} (hk : k < L.length) : ∃ g, ad = some ⟨g, 0, none⟩ ∧ w.cell? ⟨g, k, none⟩ = some (.int .i64 (L[k] : Int)) := by
  obtain ⟨ad', cap', e, h1, h2, h3, h4⟩ := h
  cases e
  obtain ⟨g, rfl, hf, hc⟩ := h3 (by omega)
  exact ⟨g, rfl, hc k _ (by rw [List.getElem?_map, List.getElem?_eq_getElem hk]; rfl)⟩

/-! ### calls, as a Run -/
section
variable {c d B hi U : Nat} {M : Nat → Prop} {C : CS} {w0 w : World}
theorem Run.getF (h : Run c d B hi M U C w0 w) (b : Int) (hb : I64 b) (ha : C.st.acts ≤ 1000000) (hU : U ≤ 1000000000) :
    Calls Try.prog 11 #[cV c, .int .i64 b] w fun e w' => e = .returned (.tuple #[.string (getC C b).1, .int .i64 (getC C b).2.1]) ∧ ∃ M', Run c d B hi M' (U + 1) (getC C b).2.2 w0 w' ∧ Frees B hi M M' w w' :=
  (get_any b hb ha hU w h.cache).mono fun _ _ ⟨M', hr, hc, hw⟩ => ⟨hr, M', h.went hc hw, hw.frees⟩
theorem Run.putF (h : Run c d B hi M U C w0 w) (b : Int) (hb : I64 b) (s : ByteArray) (pin : Bool) (ha : C.st.acts ≤ 1000000) (hU : U ≤ 1000000000) :
    Calls Try.prog 12 #[cV c, .int .i64 b, .string s, .bool pin] w fun e w' => e = .returned (.int .i64 (putC C b s pin).1) ∧ ∃ M', Run c d B hi M' (U + 1) (putC C b s pin).2 w0 w' ∧ Frees B hi M M' w w' :=
  (put_any b hb s pin ha hU w h.cache).mono fun _ _ ⟨M', hr, hc, hw⟩ => ⟨hr, M', h.went hc hw, hw.frees⟩
theorem Run.unpinF (h : Run c d B hi M U C w0 w) (b : Int) (hb : I64 b) :
    Calls Try.prog 9 #[cV c, .int .i64 b] w fun e w' => e = .returned (.tuple #[]) ∧ ∃ M', Run c d B hi M' U (unpinC C b) w0 w' ∧ Frees B hi M M' w w' :=
  (unpin_any b hb w h.cache).mono fun _ _ ⟨M', hr, hc, hw⟩ => ⟨hr, M', h.went hc hw, hw.frees⟩
theorem Run.forgetF (h : Run c d B hi M U C w0 w) (b : Int) (hb : I64 b) :
    Calls Try.prog 10 #[cV c, .int .i64 b] w fun e w' => e = .returned (.tuple #[]) ∧ ∃ M', Run c d B hi M' U (forgetC C b) w0 w' ∧ Frees B hi M M' w w' :=
  (forget_any b hb w h.cache).mono fun _ _ ⟨M', hr, hc, hw⟩ => ⟨hr, M', h.went hc hw, hw.frees⟩
theorem Run.outF (h : Run c d B hi M U C w0 w) (b : Int) (hb : I64 b) (ha : C.st.acts ≤ 1000000) :
    Calls Try.prog 14 #[cV c, .int .i64 b] w fun e w' => e = .returned (.int .i64 (outC C b).1) ∧ ∃ M', Run c d B hi M' U (outC C b).2 w0 w' ∧ Frees B hi M M' w w' :=
  (out_any b hb ha w h.cache).mono fun _ _ ⟨M', hr, hc, hw⟩ => ⟨hr, M', h.went hc hw, hw.frees⟩
theorem Run.syncF (h : Run c d B hi M U C w0 w) (ha : C.st.acts ≤ 900000) :
    Calls Try.prog 15 #[cV c] w fun e w' => e = .returned (.int .i64 (syncC C).1) ∧ ∃ M', Run c d B hi M' U (syncC C).2 w0 w' ∧ Frees B hi M M' w w' :=
  (sync_any ha w h.cache).mono fun _ _ ⟨M', hr, hc, hw⟩ => ⟨hr, M', h.went hc hw, hw.frees⟩
theorem Run.armF (h : Run c d B hi M U C w0 w) (n : Int) (hn : I64 n) :
    Calls Try.prog 27 #[.pointer (some ⟨d, 0, none⟩), .int .i64 n] w fun e w' => e = .returned (.tuple #[]) ∧ ∃ M', Run c d B hi M' U (C.on (C.st.armed n)) w0 w' ∧ Frees B hi M M' w w' :=
  (arm_any n hn w h.dev).mono fun _ _ ⟨hr, h2, hz⟩ => ⟨hr, M, h.went (h.cache.on h2 hz rfl) (Went.zone hz), (Went.zone (M := M) hz).frees⟩
theorem Run.hasF (h : Run c d B hi M U C w0 w) (b : Nat) (hb : b ≤ 4000000) :
    Calls Try.prog 16 #[cV c, .int .i64 (b : Int)] w fun e w' => e = .returned (.bool (hasB C false false b)) ∧ w = w' := by
  have := has_raw (b : Int) ⟨by omega, by omega⟩ w h.cache
  rw [has_is] at this; exact this
end
def wo (L : List Nat) (k : Int) : List Nat := L.filter fun x : Nat => (x : Int) != k
theorem wo_length (L : List Nat) (k : Int) : (wo L k).length ≤ L.length := List.length_filter_le _ _
theorem wo_append (L R : List Nat) (k : Int) : wo (L ++ R) k = wo L k ++ wo R k := List.filter_append ..
theorem wo_one (z : Nat) (k : Int) : wo [z] k = if (z : Int) = k then [] else [z] := by
  unfold wo
  rw [List.filter_cons, List.filter_nil]
  by_cases h : (z : Int) = k
  · rw [if_pos h, if_neg (by rw [bne_iff_ne]; exact fun h2 => h2 h)]
  · rw [if_neg h, if_pos (by rw [bne_iff_ne]; exact h)]
theorem wo_nat (L : List Nat) (b : Nat) : wo L b = dropN L b := by
  unfold wo dropN
  refine List.filter_congr fun x _ => ?_
  rw [Bool.eq_iff_iff, bne_iff_ne, bne_iff_ne]
  omega
set_option maxRecDepth 100000 in
set_option maxHeartbeats 2000000 in
theorem without_any (v : Value) (L : List Nat) (k : Int) (hL : L.length ≤ 4000000) (w : World) (h : NatsIn v L w) :
    Calls Try.prog 30 #[v, .int .i64 k] w fun e w' => ∃ v', e = .returned v' ∧ NatsAt w.heap.size v' (wo L k) w' ∧ Below w.heap.size w w' := by
  obtain ⟨ad, cap, rfl, a1, a2, had, -⟩ := h.shape
  have HA := Lib.hid had
  clear h had
  go_enter Try.func30, Try.ntmps30
  go_wp2
  go_loopw [5, 6] (fun v q wr => ∃ i : Nat, q = .int .i64 i ∧ i ≤ L.length ∧ NatsAt w.heap.size v (wo (L.take i) k) wr ∧ Below w.heap.size w wr) (fun _ q _ => L.length - (intOf q).toNat)
  case atStart => exact ⟨0, rfl, Nat.zero_le _, World.ownsRow_nil _ _ _ _, Below.refl _ _⟩
  case round =>
    obtain ⟨i, rfl, hi, hown, hb⟩ := hrel
    by_cases hlt : i < L.length
    · obtain ⟨ga, oa, rfl, hga, hca⟩ := HA.out (by rw [List.length_map]; omega)
      have e1 : (L.map natV)[i]? = some (.int .i64 (L[i] : Int)) := by rw [List.getElem?_map, List.getElem?_eq_getElem hlt]; rfl
      have q1 := (hb.cell (p := ⟨ga, oa + i, none⟩) hga).trans (hca i _ e1)
      have hd : L.take (i + 1) = L.take i ++ [L[i]] := by rw [List.take_add_one, List.getElem?_eq_getElem hlt]; rfl
      have hlen : (wo (L.take i) k).length ≤ 4000000 := Nat.le_trans (wo_length _ _) (by rw [List.length_take]; omega)
      by_cases he : (L[i] : Int) = k
      · have t1 : ((L[i] : Int) != k) = false := by rw [bne_eq_false_iff_eq]; exact he
        have HN : Hid (wo (L.take (i + 1)) k = wo (L.take i) k) := Lib.hid (by rw [hd, wo_append, wo_one, if_pos he, List.append_nil])
        have HO := Lib.hid (And.intro hown hb)
        clear hd hca e1 HA he hown hb hlen
        generalize L[i] = z at *
        go_wp2
        exact ⟨⟨i + 1, by go_num, by omega, by rw [HN.out]; exact HO.out.1, HO.out.2⟩, by simp [intOf]; omega⟩
      · have t1 : ((L[i] : Int) != k) = true := by rw [bne_iff_ne]; exact he
        have HN : Hid (wo (L.take (i + 1)) k = (wo (L.take i) k) ++ [L[i]]) := Lib.hid (by rw [hd, wo_append, wo_one, if_neg he])
        have hs := hb.size
        have q2 := q1
        clear hd hca e1 HA he
        generalize wo (L.take i) k = R at *
        generalize L[i] = z at *
        go_wp2_with (at_builtin; refine wpList_app1 rfl _ _ rfl w.heap.size _ _ z rfl (hown.alloc _) wr rfl rfl (by omega) (by rw [size_alloc]; omega) ?_)
        intro v' w2 h2 b2
        have hb3 := (hb.alloc hs (.cells #[.int .i64 (z : Int)] 3)).trans b2
        rw [← HN.out] at h2
        have HO := Lib.hid (And.intro h2 hb3)
        clear hown hb b2 q1 q2 HN h2 hb3 t1
        go_wp2
        exact ⟨⟨i + 1, by go_num, by omega, HO.out.1, HO.out.2⟩, by simp [intOf]; omega⟩
    · obtain rfl : i = L.length := by omega
      rw [List.take_length] at hown
      have HO := Lib.hid (And.intro hown hb)
      clear HA hown hb
      go_wp2
      go_ret
      exact ⟨_, rfl, HO.out⟩
end Go.Proofs.Yticbielifcjpdaa
