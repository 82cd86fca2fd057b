/- The chapter's cache (alive); made. -/
import Derived.Test.YtehjobjjlldckaaGreatCDoes
import Derived.LoopN
namespace Go.Proofs.YtehjobjjlldckaaGreat
set_option linter.unusedVariables false
open Go.RowKit

abbrev S0 : St := freshSt 4 zeroB
abbrev S1 : St := S0.wrote 0 (rep 97)
abbrev B0 : Buf := ⟨0, rep 97, true, false⟩
abbrev Z1 (k : Nat) : Buf := ⟨k, zeros, false, false⟩
def C0 : CS := ⟨S0, 2, []⟩
def C1 : CS := ⟨S0, 2, [B0]⟩
def C2 : CS := ⟨S0, 2, [B0, Z1 1]⟩
def C3 : CS := ⟨S0, 2, [Z1 1, B0]⟩
def C4 : CS := ⟨S0, 2, [B0, Z1 2]⟩
def C5 : CS := ⟨S1, 2, [Z1 2, Z1 3]⟩
def C6 : CS := ⟨S1, 2, [Z1 3, ⟨1, rep 98, true, true⟩]⟩
def C7 : CS := ⟨S1, 2, [⟨1, rep 98, true, true⟩, ⟨2, rep 97, true, true⟩]⟩
theorem s1_put : putC C0 0 (rep 97) false = (0, C1) := by
  unfold putC
  rw [if_pos (by decide), if_pos (rep_size _)]; rfl
theorem s2_get : getC C1 1 = (zeros, 0, C2) := rfl
theorem s3_get : getC C2 0 = (rep 97, 0, C3) := rfl
theorem s4_get : getC C3 2 = (zeros, 0, C4) := rfl
theorem w5 : wCode S0 0 (rep 97).size = 0 := wCode_zero (by omega) (by decide) (rep_size _) (by decide)
set_option maxRecDepth 100000 in
theorem r5 : roomC C4 = (0, ⟨S1, 2, [Z1 2]⟩) := by
  unfold roomC
  rw [if_neg (by decide), show freeB C4.L = some B0 from rfl]
  show (if B0.dirty = true then (if wCode C4.st B0.b B0.data.size = 0 then (0, { C4 with st := wSt C4.st B0.b B0.data, L := dropB C4.L B0.b }) else (wCode C4.st B0.b B0.data.size, C4)) else (0, { C4 with L := dropB C4.L B0.b })) = _
  rw [if_pos rfl, if_pos (show wCode C4.st B0.b B0.data.size = 0 from w5), show wSt C4.st B0.b B0.data = S1 from wSt_new w5]
  rfl
set_option maxRecDepth 100000 in
theorem s5_get : getC C4 3 = (zeros, 0, C5) := by
  unfold getC
  rw [if_pos (by decide), show atB C4.L 3 = none from rfl]
  show (if (roomC C4).1 = 0 then ((roomC C4).2.st.now 3, 0, { (roomC C4).2 with L := (roomC C4).2.L ++ [⟨3, (roomC C4).2.st.now 3, false, false⟩] }) else (⟨#[]⟩, (roomC C4).1, C4)) = _
  rw [r5]; rfl
theorem s6_put : putC C5 1 (rep 98) true = (0, C6) := by
  unfold putC
  rw [if_pos (by decide), if_pos (rep_size _)]; rfl
theorem s7_put : putC C6 2 (rep 97) true = (0, C7) := by
  unfold putC
  rw [if_pos (by decide), if_pos (rep_size _)]; rfl
theorem s8_get : getC C7 0 = (⟨#[]⟩, 70, C7) := rfl
theorem l8 : listB C7 true false = [1, 2] ∧ listB C7 false true = [1, 2] := ⟨rfl, rfl⟩
theorem h4 : (atB C4.L 0).isSome = true ∧ (atB C4.L 1).isSome = false ∧ (atB C4.L 2).isSome = true := ⟨rfl, rfl, rfl⟩
theorem t4 : rText C4.st 0 = zeros ∧ rCode C4.st 0 = 0 := ⟨rfl, rfl⟩
theorem t5 : rText C5.st 0 = rep 97 ∧ rCode C5.st 0 = 0 := ⟨rfl, rfl⟩
theorem zeros_rep : zeros = rep 0 := rfl

/-- behind a step: the cache, what was there at the start, and that its own memory is younger -/
structure Run (c d B hi : Nat) (M : Nat → Prop) (U : Nat) (C : CS) (w0 w : World) : Prop where
  cache : CacheAt c d B hi M U C w
  below : Below B w0 w
  young : ∀ k, M k → B ≤ k
theorem Run.kept1 {c d B hi U : Nat} {M : Nat → Prop} {C : CS} {w0 w w' : World} (h : Run c d B hi M U C w0 w) (b : Below w.heap.size w w') : Run c d B hi M U C w0 w' :=
  ⟨h.cache.kept1 b, h.below.trans (b.mono (Nat.le_of_lt (Nat.lt_of_lt_of_le (DevAt.lohi h.cache.dev) h.cache.dev.top))), h.young⟩
theorem Run.base {c d B hi U : Nat} {M : Nat → Prop} {C : CS} {w0 w : World} (h : Run c d B hi M U C w0 w) : B ≤ w.heap.size := Nat.le_of_lt (Nat.lt_of_lt_of_le (DevAt.lohi h.cache.dev) h.cache.dev.top)
theorem Run.went {c d B hi U U' : Nat} {M M' : Nat → Prop} {C C' : CS} {w0 w w' : World} (h : Run c d B hi M U C w0 w) (k : CacheAt c d B hi M' U' C' w') (g : Went B hi M M' w w') : Run c d B hi M' U' C' w0 w' :=
  ⟨k, h.below.trans (g.turn.below h.base fun k hk ho => ho.elim (fun hm => by have := h.young k hm; omega) fun hz => by omega), fun k hm => (g.new k hm).elim (h.young k) fun hl => Nat.le_trans h.base hl⟩
theorem Run.dev {c d B hi U : Nat} {M : Nat → Prop} {C : CS} {w0 w : World} (h : Run c d B hi M U C w0 w) : DevAt d B hi C.st w := h.cache.dev
theorem Run.get {c d B hi U : Nat} {M : Nat → Prop} {C C' : CS} {w0 w : World} {t : ByteArray} {code : Int} (h : Run c d B hi M U C w0 w) (b : Int) (hb : I64 b) (ha : C.st.acts ≤ 1000000) (hU : U ≤ 1000000000) (e : getC C b = (t, code, C')) :
    Calls Tryz.prog 33 #[cV c, .int .i64 b] w fun e w' => e = .returned (.tuple #[.string t, .int .i64 code]) ∧ ∃ M', Run c d B hi M' (U + 1) C' w0 w' ∧ ∀ g, g < w.heap.size → ¬ M g → ¬ (B ≤ g ∧ g < hi) → w'.heap[g]? = w.heap[g]? ∧ ¬ M' g ∧ g < w'.heap.size := by
  refine (get_any b hb ha hU w h.cache).mono ?_
  rintro r w' ⟨M', hr, hc, hw⟩
  rw [e] at hr hc
  exact ⟨hr, M', h.went hc hw, fun g h1 h2 h3 => hw.free h1 h2 h3⟩
theorem Run.put {c d B hi U : Nat} {M : Nat → Prop} {C C' : CS} {w0 w : World} {code : Int} (h : Run c d B hi M U C w0 w) (b : Int) (hb : I64 b) (s : ByteArray) (pin : Bool) (ha : C.st.acts ≤ 1000000) (hU : U ≤ 1000000000) (e : putC C b s pin = (code, C')) :
    Calls Tryz.prog 31 #[cV c, .int .i64 b, .string s, .bool pin] w fun e w' => e = .returned (.int .i64 code) ∧ ∃ M', Run c d B hi M' (U + 1) C' w0 w' := by
  refine (put_any b hb s pin ha hU w h.cache).mono ?_
  rintro r w' ⟨M', hr, hc, hw⟩
  rw [e] at hr hc
  exact ⟨hr, M', h.went hc hw⟩
theorem lit_row (w : World) (cs : Array Value) (t : TypeId) (n : Nat) (hn : cs.size = n) (hb : n ≤ 1000) : RowIn 1 (.slice (some ⟨w.heap.size, 0, none⟩) n n) n cs.toList (w.alloc (.cells cs t)) := by
  subst hn
  refine ⟨by simp, some ⟨w.heap.size, 0, none⟩, cs.size, rfl, Nat.le_refl _, by unfold maxLen; omega, fun _ => ⟨w.heap.size, 0, rfl, by rw [size_alloc]; omega, fun k u hk => ?_⟩, fun h => by cases h⟩
  rw [Nat.zero_add, World.cell?_alloc_mark]
  simpa using hk
set_option maxRecDepth 100000 in
set_option maxHeartbeats 8000000 in
theorem alive_any (w : World) : Calls Tryz.prog 9 #[] w fun e w' => e = .returned (.bool true) ∧ Below w.heap.size w w' := by
  have N := Lib.hid (new_yes 4 (by omega) (by omega) w)
  have NC := Lib.hid fun d lo hi w1 (h : DevAt d lo hi S0 w1) => cnew_yes (most := 2) (by omega) (by omega) w1 h
  have F := Lib.hid fun b (hb : b < 256) => fill_of b hb
  have P1 := Lib.hid fun c d hi M w1 (h : Run c d w.heap.size hi M 0 C0 w w1) => h.put 0 ⟨by omega, by omega⟩ (rep 97) false (by decide) (by omega) s1_put
  have G2 := Lib.hid fun c d hi M w1 (h : Run c d w.heap.size hi M 1 C1 w w1) => h.get 1 ⟨by omega, by omega⟩ (by decide) (by omega) s2_get
  have G3 := Lib.hid fun c d hi M w1 (h : Run c d w.heap.size hi M 2 C2 w w1) => h.get 0 ⟨by omega, by omega⟩ (by decide) (by omega) s3_get
  have G4 := Lib.hid fun c d hi M w1 (h : Run c d w.heap.size hi M 3 C3 w w1) => h.get 2 ⟨by omega, by omega⟩ (by decide) (by omega) s4_get
  have G5 := Lib.hid fun c d hi M w1 (h : Run c d w.heap.size hi M 4 C4 w w1) => h.get 3 ⟨by omega, by omega⟩ (by decide) (by omega) s5_get
  have P6 := Lib.hid fun c d hi M w1 (h : Run c d w.heap.size hi M 5 C5 w w1) => h.put 1 ⟨by omega, by omega⟩ (rep 98) true (by decide) (by omega) s6_put
  have P7 := Lib.hid fun c d hi M w1 (h : Run c d w.heap.size hi M 6 C6 w w1) => h.put 2 ⟨by omega, by omega⟩ (rep 97) true (by decide) (by omega) s7_put
  have G8 := Lib.hid fun c d hi M w1 (h : Run c d w.heap.size hi M 7 C7 w w1) => h.get 0 ⟨by omega, by omega⟩ (by decide) (by omega) s8_get
  have H40 := fun c d hi M w1 (h : Run c d w.heap.size hi M 4 C4 w w1) => has_raw 0 ⟨by omega, by omega⟩ w1 h.cache
  have H41 := fun c d hi M w1 (h : Run c d w.heap.size hi M 4 C4 w w1) => has_raw 1 ⟨by omega, by omega⟩ w1 h.cache
  have H42 := fun c d hi M w1 (h : Run c d w.heap.size hi M 4 C4 w w1) => has_raw 2 ⟨by omega, by omega⟩ w1 h.cache
  rw [h4.1] at H40
  rw [h4.2.1] at H41
  rw [h4.2.2] at H42
  have H40 := Lib.hid H40
  have H41 := Lib.hid H41
  have H42 := Lib.hid H42
  have D8 := fun c d hi M w1 (h : Run c d w.heap.size hi M 8 C7 w w1) => dirty_any w1 h.cache
  have Q8 := fun c d hi M w1 (h : Run c d w.heap.size hi M 8 C7 w w1) => pinned_any w1 h.cache
  rw [l8.1] at D8
  rw [l8.2] at Q8
  have R4 := fun c d hi M w1 (h : Run c d w.heap.size hi M 4 C4 w w1) => read_any 0 w1 h.dev
  have R5 := fun c d hi M w1 (h : Run c d w.heap.size hi M 5 C5 w w1) => read_any 0 w1 h.dev
  rw [t4.1, t4.2] at R4
  rw [t5.1, t5.2] at R5
  have D8 := Lib.hid D8
  have Q8 := Lib.hid Q8
  have R4 := Lib.hid R4
  have R5 := Lib.hid R5
  have SY := Lib.hid fun va vb w ha hb => same_yes va vb [1, 2] (by decide) w ha hb
  have r1 : ∀ a, (rep a).size = 128 := rep_size
  go_enter Tryz.func9, Tryz.ntmps9
  go_wp2_with fail
  refine N.out.mono ?_; rintro e w1 ⟨d, rfl, hd, hb⟩
  clear N
  go_wp2_with fail
  refine (NC.out _ _ _ _ hd).mono ?_; rintro e w2 ⟨c, M, rfl, hc, b, hy⟩
  have hr : Run c d w.heap.size w1.heap.size M 0 C0 w w2 := ⟨hc, hb.trans (b.mono hb.size), fun k hk => Nat.le_trans hb.size (hy k hk)⟩
  clear NC hd hb hc b hy
  generalize w1.heap.size = hi at *
  go_wp2_with fail
  refine (F.out 97 (by decide) _).mono ?_; rintro e w3 ⟨rfl, b⟩
  have hr := hr.kept1 b
  go_wp2_with fail
  refine (P1.out _ _ _ _ _ hr).mono ?_; rintro e w4 ⟨rfl, M1, hr⟩
  clear P1 b
  obtain ⟨w5, hw5⟩ : ∃ w5, w5 = w4.alloc (.cells #[.int .i64 1, .int .i64 0, .int .i64 2] 3) := ⟨_, rfl⟩
  have hL : Blk w4.heap.size #[.int .i64 1, .int .i64 0, .int .i64 2] 3 w5 := by rw [hw5]; exact Blk.new _ _ _
  have hMg : ¬ M1 w4.heap.size := fun hm => by have := hr.cache.lt hm; omega
  have hzg : ¬ (w.heap.size ≤ w4.heap.size ∧ w4.heap.size < hi) := by have := hr.dev.top; omega
  have hr : Run c d w.heap.size hi M1 1 C1 w w5 := by rw [hw5]; exact hr.kept1 (balloc1 _ _)
  go_wp2
  rw [← hw5]
  clear hw5
  generalize w4.heap.size = gl at *
  have q0 : w5.cell? ⟨gl, 0, none⟩ = some (.int .i64 1) := hL.cell 0
  refine wp_loop_rounds 4 ?_
  rw [rounds_succ]
  go_wp2_with fail
  refine (G2.out _ _ _ _ _ hr).mono ?_; rintro e w6 ⟨rfl, M2, hr, hk⟩
  obtain ⟨k1, hMg, -⟩ := hk gl hL.lt hMg hzg
  have hL : Blk gl #[.int .i64 1, .int .i64 0, .int .i64 2] 3 w6 := k1.trans hL
  have q1 : w6.cell? ⟨gl, 1, none⟩ = some (.int .i64 0) := hL.cell 1
  clear G2 q0 hk k1
  go_wp2
  rw [rounds_succ]
  go_wp2_with fail
  refine (G3.out _ _ _ _ _ hr).mono ?_; rintro e w7 ⟨rfl, M3, hr, hk⟩
  obtain ⟨k1, hMg, -⟩ := hk gl hL.lt hMg hzg
  have hL : Blk gl #[.int .i64 1, .int .i64 0, .int .i64 2] 3 w7 := k1.trans hL
  have q2 : w7.cell? ⟨gl, 2, none⟩ = some (.int .i64 2) := hL.cell 2
  clear G3 q1 hk k1
  go_wp2
  rw [rounds_succ]
  go_wp2_with fail
  refine (G4.out _ _ _ _ _ hr).mono ?_; rintro e w8 ⟨rfl, M4, hr, hk⟩
  clear G4 q2 hk hL hMg hzg
  go_wp2
  rw [rounds_succ]
  go_wp2_with fail
  refine (R4.out _ _ _ _ _ hr).mono ?_; rintro e w' ⟨rfl, rfl⟩
  clear R4
  go_wp2_with fail
  refine (H40.out _ _ _ _ _ hr).mono ?_; rintro e w' ⟨rfl, rfl⟩
  go_wp2_with fail
  refine (H41.out _ _ _ _ _ hr).mono ?_; rintro e w' ⟨rfl, rfl⟩
  go_wp2_with fail
  refine (H42.out _ _ _ _ _ hr).mono ?_; rintro e w' ⟨rfl, rfl⟩
  clear H40 H41 H42
  go_wp2_with fail
  refine (F.out 0 (by decide) _).mono ?_; rintro e w9 ⟨rfl, b⟩
  have hr := hr.kept1 b
  clear b
  have z0 : ((zeros).toList == (rep 0).toList) = true := by rw [zeros_rep]; simp
  have z1 : ((zeros).toList != (rep 0).toList) = false := by rw [zeros_rep]; simp
  go_wp2_with fail
  refine (G5.out _ _ _ _ _ hr).mono ?_; rintro e w10 ⟨rfl, M5, hr, -⟩
  clear G5 z0 z1
  go_wp2_with fail
  refine (R5.out _ _ _ _ _ hr).mono ?_; rintro e w' ⟨rfl, rfl⟩
  clear R5
  go_wp2_with fail
  refine (F.out 98 (by decide) _).mono ?_; rintro e w11 ⟨rfl, b⟩
  have hr := hr.kept1 b
  clear b
  go_wp2_with fail
  refine (P6.out _ _ _ _ _ hr).mono ?_; rintro e w12 ⟨rfl, M6, hr⟩
  clear P6
  go_wp2_with fail
  refine (F.out 97 (by decide) _).mono ?_; rintro e w13 ⟨rfl, b⟩
  have hr := hr.kept1 b
  clear b
  go_wp2_with fail
  refine (P7.out _ _ _ _ _ hr).mono ?_; rintro e w14 ⟨rfl, M7, hr⟩
  clear P7
  go_wp2_with fail
  refine (G8.out _ _ _ _ _ hr).mono ?_; rintro e w15 ⟨rfl, M8, hr, -⟩
  clear G8
  go_wp2_with fail
  refine (F.out 97 (by decide) _).mono ?_; rintro e w16 ⟨rfl, b⟩
  have hr := hr.kept1 b
  clear b
  go_wp2_with fail
  refine (D8.out _ _ _ _ _ hr).mono ?_; rintro e w17 ⟨v, rfl, hv, b⟩
  have hr := hr.kept1 b
  clear b D8
  have b := balloc1 w17 (.cells #[.int .i64 1, .int .i64 2] 3)
  have S := Lib.hid (SY.out v _ _ ((natsAt_in hv).kept b) (lit_row w17 #[.int .i64 1, .int .i64 2] 3 2 rfl (by decide)))
  have hr := hr.kept1 b
  clear b hv
  go_wp2_with fail
  refine S.out.mono ?_; rintro e w18 ⟨rfl, b⟩
  have hr := hr.kept1 b
  clear b S
  go_wp2_with fail
  refine (Q8.out _ _ _ _ _ hr).mono ?_; rintro e w19 ⟨v, rfl, hv, b⟩
  have hr := hr.kept1 b
  clear b Q8
  have b := balloc1 w19 (.cells #[.int .i64 1, .int .i64 2] 3)
  have S := Lib.hid (SY.out v _ _ ((natsAt_in hv).kept b) (lit_row w19 #[.int .i64 1, .int .i64 2] 3 2 rfl (by decide)))
  have hr := hr.kept1 b
  clear b hv SY
  go_wp2_with fail
  refine S.out.mono ?_; rintro e w20 ⟨rfl, b⟩
  have hr := hr.kept1 b
  clear b S
  go_wp2
  go_ret
  exact ⟨rfl, hr.below⟩
end Go.Proofs.YtehjobjjlldckaaGreat
