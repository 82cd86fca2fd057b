/- The walk of RecordsEncode. -/
import Derived.Test.YthkmcfomnkcljaaKTwin
import Derived.Test.YthkmcfomnkcljaaKAlive
import Derived.Test.YthkmcfomnkcljaaKSame
import Derived.Test.YthkmcfomnkcljaaKREncL
namespace Go.Proofs.Ythkmcfomnkcljaa
set_option linter.unusedVariables false
open Go.RowKit

/-- a copy with two of its own behind: its first part -/
theorem twin_in {α : Type} {f : α → Value} {B : Nat} {e : TypeId} {ad : Option Addr} {cp n : Nat} {L : List α} {x y : α} {w : World} (hn : L.length = n) (h : w.ownsRow B e 1 (.slice ad (n + 2) cp) (n + 2) ((L ++ [x, y]).map f)) : RowIn 1 (.slice ad n cp) L.length (L.map f) w := by
  obtain ⟨ad', cp', e1, h1, h2, h3⟩ := shape_of h
  cases e1
  obtain ⟨g, rfl, hB, hg⟩ := h3 (by omega)
  refine ⟨by simp, _, _, by rw [hn], by omega, h2, fun _ => ⟨g, 0, rfl, hg, fun k u hk => ?_⟩, fun h => by cases h⟩
  have hl := (List.getElem?_eq_some_iff.1 hk).1
  rw [List.length_map] at hl
  rw [Nat.zero_add, h.cellAt k (by omega), ← hk, List.map_append, List.getElem?_append_left (by rw [List.length_map]; exact hl)]
theorem twin_ends {α : Type} {f : α → Value} {B : Nat} {e : TypeId} {ad : Option Addr} {cp n : Nat} {L : List α} {x y : α} {w : World} (hn : L.length = n) (h : w.ownsRow B e 1 (.slice ad (n + 2) cp) (n + 2) ((L ++ [x, y]).map f)) :
    ∃ g, ad = some ⟨g, 0, none⟩ ∧ g < w.heap.size ∧ n + 2 ≤ cp ∧ cp ≤ 9223372036854775807 ∧ w.cell? ⟨g, n, none⟩ = some (f x) ∧ w.cell? ⟨g, n + 1, none⟩ = some (f y) := by
  obtain ⟨ad', cp', e1, h1, h2, h3⟩ := shape_of h
  cases e1
  obtain ⟨g, rfl, hB, hg⟩ := h3 (by omega)
  refine ⟨g, rfl, hg, h1, h2, ?_, ?_⟩
  · rw [h.cellAt n (by omega), List.map_append, List.getElem?_append_right (by rw [List.length_map]; omega), List.length_map, hn, Nat.sub_self]; rfl
  · rw [h.cellAt (n + 1) (by omega), List.map_append, List.getElem?_append_right (by rw [List.length_map]; omega), List.length_map, hn, Nat.add_sub_cancel_left]; rfl
theorem enc_both (r : Rec) (f : Fits r) : ∃ (S : ByteArray) (c : Int), (∀ vh vm w, RecIn r vh vm w → Calls Try.prog 10 #[recV r vh vm] w fun e w' => e = .returned (.tuple #[.string S, .int .i64 c]) ∧ Below w.heap.size w w') ∧
    (∀ vh vm w, RecIn r vh vm w → Calls Try.prog 11 #[recV r vh vm] w fun e w' => e = .returned (.tuple #[.string S, .int .i64 c]) ∧ Below w.heap.size w w') := by
  by_cases h : RecOk r
  · exact ⟨blk r, 0, fun vh vm w hr => enc_yes r h f vh vm w hr, fun vh vm w hr => renc_yes r h f vh vm w hr⟩
  · exact ⟨⟨#[]⟩, 2, fun vh vm w hr => enc_no r h f vh vm w hr, fun vh vm w hr => renc_no r h f vh vm w hr⟩
theorem RowIn.set {n : Nat} {v : Value} {cs : List Value} {w : World} (h : RowIn 1 v n cs w) (p : Addr) (u : Value) (hp : ∀ g o, v = v → (∃ c, v = .slice (some ⟨g, o, none⟩) n c) → p.block ≠ g) : RowIn 1 v n cs (w.setCell p u) := by
  obtain ⟨h0, ad, cap, rfl, h1, h2, h3, h4⟩ := h
  refine ⟨h0, ad, cap, rfl, h1, h2, fun hq => ?_, h4⟩
  obtain ⟨g, o, rfl, hg, hc⟩ := h3 hq
  refine ⟨g, o, rfl, by rw [size_set]; exact hg, fun k x hk => ?_⟩
  rw [World.cell?_of_block (a := ⟨g, o + k, none⟩) (w := w) (Below.heap_setCell w p u g fun e => hp g o rfl ⟨_, rfl⟩ e.symm)]
  exact hc k x hk

set_option maxRecDepth 100000 in
set_option maxHeartbeats 16000000 in
theorem encode_walk (r : Rec) (f : Fits r) (vh vm : Value) (w : World) (hr : RecIn r vh vm w) :
    Calls Try.prog 3 #[recV r vh vm] w fun e w' => e = .returned (.bool true) ∧ Below w.heap.size w w' := by
  have gh : Try.prog.stoodInHeld 27 = false := by kernel_rfl
  have mixed : Try.prog.follows .mixedOrders = true := by kernel_rfl
  obtain ⟨ah, ch, rfl, a1, a2, -⟩ := hr.1.shape
  obtain ⟨am, cm, rfl, b1, b2, -⟩ := hr.2.shape
  have hb00 := balloc1 w (.cells (recC r (.slice ah r.homes.length ch) (.slice am r.masked.length cm)) 27)
  by_cases l1 : r.homes.length ≤ 1000
  · by_cases l2 : r.masked.length ≤ 1000
    · clear hb00
      have AL := Lib.hid alive_any
      obtain ⟨S, cS, EA, EB⟩ := enc_both r f
      have SM := fun vh2 vm2 w' (h2 : RecIn r vh2 vm2 w') (h1 : RecIn r (.slice ah r.homes.length ch) (.slice am r.masked.length cm) w') => same_rec r vh2 vm2 _ _ w' h2 h1
      obtain ⟨w0, hw0⟩ : ∃ w0, (w.alloc (.cells (recC r (.slice ah r.homes.length ch) (.slice am r.masked.length cm)) 27)).alloc (.cells (recC r (.slice ah r.homes.length ch) (.slice am r.masked.length cm)) 27) = w0 := ⟨_, rfl⟩
      have hb0 : Below w.heap.size w w0 := by rw [← hw0]; exact balloc (balloc1 w _) _
      have HA : Blk w.heap.size (recC r (.slice ah r.homes.length ch) (.slice am r.masked.length cm)) 27 w0 := by rw [← hw0]; exact (Blk.new _ _ w).kept1 (balloc1 _ _)
      have HB : Blk (w.heap.size + 1) (recC r (.slice ah r.homes.length ch) (.slice am r.masked.length cm)) 27 w0 := by
        rw [← hw0]
        have := Blk.new (recC r (.slice ah r.homes.length ch) (.slice am r.masked.length cm)) 27 (w.alloc (.cells (recC r (.slice ah r.homes.length ch) (.slice am r.masked.length cm)) 27))
        rw [size_alloc] at this
        exact this
      have hs0 : w0.heap.size = w.heap.size + 2 := by rw [← hw0, size_alloc, size_alloc]
      have hr0 := hr.kept hb0
      have HAR : ∀ g o c, Value.slice ah r.homes.length ch = .slice (some ⟨g, o, none⟩) r.homes.length c → 0 < r.homes.length → g < w.heap.size := fun g o c e hp => by
        obtain ⟨_, ad, cap, e2, _, _, h3, _⟩ := hr.1
        cases e2; cases e
        obtain ⟨g', o', e3, hg, _⟩ := h3 (by rw [List.length_map]; exact hp)
        cases e3; exact hg
      obtain ⟨kind, seq, pos, homes, masked, sum⟩ := r
      dsimp only at l1 l2
      try dsimp only at hr0
      try dsimp only at hr
      try dsimp only at SM
      try dsimp only at EA
      try dsimp only at EB
      have HW0 := Lib.hid hw0
      obtain ⟨n, hn⟩ : ∃ n, homes.length = n := ⟨_, rfl⟩
      obtain ⟨m, hm⟩ : ∃ m, masked.length = m := ⟨_, rfl⟩
      rw [hn] at HA HB HW0 l1 a1
      rw [hm] at HA HB HW0 l2 b1
      have ROW_i : RowIn 1 (.slice ah n ch) n (homes.map (Value.int .i64)) w0 := by have := hr0.1; unfold IntsIn at this; simp only [hn] at this; exact this
      have RB0 : RowIn 1 (.slice am m cm) m (masked.map Value.bool) w0 := by have := hr0.2; unfold BoolsIn at this; simp only [hm] at this; exact this
      have RA := hr
      try dsimp only
      rw [hn, hm]
      try dsimp only at RA
      have hrI : IntsIn (.slice ah n ch) homes w := by have := RA.1; (try dsimp only at this); rw [hn] at this; exact this
      have hrB : BoolsIn (.slice am m cm) masked w := by have := RA.2; (try dsimp only at this); rw [hm] at this; exact this
      have SM : Hid (∀ vh2 vm2 w', RecIn ⟨kind, seq, pos, homes, masked, sum⟩ vh2 vm2 w' → RecIn ⟨kind, seq, pos, homes, masked, sum⟩ (.slice ah n ch) (.slice am m cm) w' → Calls Try.prog 12 #[recV ⟨kind, seq, pos, homes, masked, sum⟩ vh2 vm2, recV ⟨kind, seq, pos, homes, masked, sum⟩ (.slice ah n ch) (.slice am m cm)] w' fun e w'' => e = .returned (.bool true) ∧ Below w'.heap.size w' w'') := Lib.hid (fun vh2 vm2 w' h2 h1 => same_rec _ vh2 vm2 _ _ w' h2 h1)
      have EA := Lib.hid EA
      have EB := Lib.hid EB
      have HS0 := Lib.hid hs0
      have KS_i : ∀ W, Below w0.heap.size w0 W → (W.cell? ⟨w.heap.size, 3, none⟩ = some (.slice ah n ch) ∧ W.cell? ⟨w.heap.size + 1, 3, none⟩ = some (.slice ah n ch) ∧ W.frozen? ⟨w.heap.size + 1, 3, none⟩ = false) := fun W b => ⟨(HA.kept1 b).cell 3, (HB.kept1 b).cell 3, (HB.kept1 b).frozen 3⟩
      have one_i : ∀ x ∈ homes.map (Value.int .i64), x.oneCell' = true := fun x hx => by obtain ⟨_, _, rfl⟩ := List.mem_map.1 hx; rfl
      have row_i := Lib.hid (fun (W : World) (b : Below w0.heap.size w0 W) => ROW_i.kept b)
      have mk_i : ∀ W, (Instr.makeSlice 23 (.int .i64 0) (.int .i64 ((n : Int) + 2))).run Try.prog W = .ok (.slice (some ⟨W.heap.size, 0, none⟩) 0 (n + 2)) (W.alloc (.cells (madeCells #[.int .i64 0] (n + 2)) 3)) := fun W => by
        have := (room_ints (n + 2) (by omega) W).1
        rwa [show ((n + 2 : Nat) : Int) = (n : Int) + 2 by omega] at this
      have bd : Below w0.heap.size w0 w0.drew := (Below.refl _ _).drew
      have hwr : IntKind.i64.wrap ((n : Int) + 2) = (n : Int) + 2 := IntWalk.i64_in _ (by omega)
      have KS := Lib.hid KS_i
      obtain ⟨M, hM⟩ : ∃ M : Obj, (.cells (madeCells #[.int .i64 0] (n + 2)) 3) = M := ⟨_, rfl⟩
      have O0 := fun W => (room_ints (n + 2) (by omega) W).2
      rw [hM] at mk_i O0
      obtain ⟨B, hB⟩ : ∃ B : Obj, (.cells #[.int .i64 (-70), .int .i64 (-71)] 3) = B := ⟨_, rfl⟩
      have T0 := fun W => two_in W (.int .i64 (-70)) (.int .i64 (-71)) 3
      rw [hB] at T0
      have bM := balloc1 w0 M
      have bB := balloc1 w0 B
      have bMB := balloc bM B
      have bBM := balloc bB M
      have O3 : (w0.alloc M).drew.ownsRow w0.heap.size 3 1 (.slice (some ⟨w0.heap.size, 0, none⟩) 0 (n + 2)) 0 [] := O0 w0
      have O1 : ((w0.alloc M).alloc B).drew.ownsRow w0.heap.size 3 1 (.slice (some ⟨w0.heap.size, 0, none⟩) 0 (n + 2)) 0 [] := (O0 w0).alloc B
      have O2 : ((w0.alloc B).alloc M).drew.ownsRow w0.heap.size 3 1 (.slice (some ⟨w0.heap.size + 1, 0, none⟩) 0 (n + 2)) 0 [] := by
        have := row_down (show w0.heap.size ≤ (w0.alloc B).heap.size by rw [size_alloc]; omega) (O0 (w0.alloc B))
        rw [size_alloc] at this
        exact this
      have T1 : RowIn 1 (.slice (some ⟨w0.heap.size + 1, 0, none⟩) 2 2) 2 [.int .i64 (-70), .int .i64 (-71)] ((w0.alloc M).alloc B).drew := by
        have := T0 (w0.alloc M)
        rw [size_alloc] at this
        exact this
      have T2 : RowIn 1 (.slice (some ⟨w0.heap.size, 0, none⟩) 2 2) 2 [.int .i64 (-70), .int .i64 (-71)] ((w0.alloc B).alloc M).drew := (T0 w0).kept (balloc1 (w0.alloc B) M).drew
      have OO := Lib.hid (And.intro O1 (And.intro O2 O3))
      have TG1 : ∀ w1, ((w0.alloc M).alloc B).drew.grownBy w1 (some w0.heap.size) → RowIn 1 (.slice (some ⟨w0.heap.size + 1, 0, none⟩) 2 2) 2 [.int .i64 (-70), .int .i64 (-71)] w1 := fun w1 g => in_grown T1 (by decide) g (fun e => by have e2 : w0.heap.size = w0.heap.size + 1 := Option.some.inj e; omega)
      have TG2 : ∀ w1, ((w0.alloc B).alloc M).drew.grownBy w1 (some (w0.heap.size + 1)) → RowIn 1 (.slice (some ⟨w0.heap.size, 0, none⟩) 2 2) 2 [.int .i64 (-70), .int .i64 (-71)] w1 := fun w1 g => in_grown T2 (by decide) g (fun e => by have e2 : w0.heap.size + 1 = w0.heap.size := Option.some.inj e; omega)
      have TT := Lib.hid (And.intro TG1 TG2)
      have T0 := Lib.hid T0
      have BL := Lib.hid (And.intro bd (And.intro bM (And.intro bB (And.intro bMB bBM))))
      have H2one : ∀ x ∈ ([.int .i64 (-70), .int .i64 (-71)] : List Value), x.oneCell' = true := fun x hx => by
        rcases List.mem_cons.1 hx with rfl | hx
        · rfl
        · rw [List.mem_singleton] at hx; subst hx; rfl
      clear TG1 TG2 O0 O1 O2 O3 T1 T2 bd bM bB bMB bBM ROW_i KS_i
      clear hr hr0 hw0 hs0 RA
      go_enter Try.func3, Try.ntmps3
      go_upto_region 4 with fail
      rw [HW0.out]
      go_cut [] (fun wx => ∃ ad2 cp2 w2, wx = w2.setCell ⟨w.heap.size + 1, 3, none⟩ (.slice ad2 n cp2) ∧ w2.ownsRow w0.heap.size 3 1 (.slice ad2 (n + 2) cp2) (n + 2) ((homes ++ [(-70), (-71)]).map (Value.int .i64)) ∧ Below w0.heap.size w0 w2)
      case first =>
        go_region_held3 (fun w' => w'.cell? ⟨w.heap.size, 3, none⟩ = some (.slice ah n ch))
          (first | exact (KS.out _ (by first | assumption | exact BL.out.1 | exact BL.out.2.1.drew | exact BL.out.2.2.1.drew | exact BL.out.2.2.2.1.drew | exact BL.out.2.2.2.2.drew | exact (balloc (show Below w0.heap.size w0 _ by assumption) _).drew | exact balloc (show Below w0.heap.size w0 _ by assumption) _)).1 | (rw [World.cell?_setCell_other _ _ _ _ (fun e => by have e2 : w.heap.size + 1 = w.heap.size := congrArg Addr.block e; omega)]; exact (KS.out _ (show Below w0.heap.size w0 _ by assumption)).1) | (rw [World.cell?_setCell_other _ _ _ _ (fun e => by have e2 : w.heap.size = w.heap.size + 1 := congrArg Addr.block e; omega)]; exact (KS.out _ (show Below w0.heap.size w0 _ by assumption)).1))
          (first | (refine step_app rfl _ _ 23 3 (.int .i64 0) 8 rfl Try.underlying23 kint_info rfl (by decide) w0.heap.size _ 0 [] rfl (by first | exact OO.out.1 | exact OO.out.2.1 | exact OO.out.2.2) _ n (homes.map (Value.int .i64)) rfl (by first | exact row_i.out _ BL.out.2.2.2.1.drew | exact row_i.out _ BL.out.2.2.2.2.drew | exact row_i.out _ BL.out.2.1.drew) one_i (by omega) (by first | exact BL.out.2.2.2.1.size | exact BL.out.2.2.2.2.size | exact BL.out.2.1.size) ?_; intro v1 w1 h1 g1 k1; rw [Nat.zero_add, List.nil_append] at h1; have q1 : Below w0.heap.size w0 w1 := (by first | exact BL.out.2.2.2.1.drew.trans k1 | exact BL.out.2.2.2.2.drew.trans k1 | exact BL.out.2.1.drew.trans k1); first | (have t1 := TT.out.1 _ g1) | (have t1 := TT.out.2 _ g1) | (have t3 : True := trivial)) | (refine step_app rfl _ _ 23 3 (.int .i64 0) 8 rfl Try.underlying23 kint_info rfl (by decide) w0.heap.size _ n (homes.map (Value.int .i64)) rfl (by first | exact h1 | exact h1.alloc B) _ 2 [.int .i64 (-70), .int .i64 (-71)] rfl (by first | exact t1 | exact T0.out w1) H2one (by omega) (by first | exact q1.size | exact (balloc q1 B).size) ?_; intro v2 w2 h2 g2 k2; have q2 : Below w0.heap.size w0 w2 := (by first | exact q1.trans k2 | exact (balloc q1 B).trans k2); obtain ⟨ad2, cp2, e2, s1, s2, s3⟩ := shape_of h2; subst e2; have s2 : cp2 ≤ 9223372036854775807 := s2; have z1 : (n : Int) ≤ (cp2 : Int) := (by omega); have z0 : (0 : Int) ≤ (n : Int) := (by omega); obtain ⟨-, cb2, fb2⟩ := KS.out w2 q2))
        all_goals (go_wp2; go_meet; exact ⟨ad2, cp2, w2, rfl, by rw [List.map_append]; exact h2, q2⟩)
      case rest =>
        obtain ⟨ad2, cp2, w2, rfl, h2, q2⟩ := hcut
        have hs0 := HS0.out
        have hsz2 := q2.size
        have HA2 := HA.kept1 q2
        have HB2 := HB.kept1 q2
        obtain ⟨w3, hw3⟩ : ∃ w3, w2.setCell ⟨w.heap.size + 1, 3, none⟩ (.slice ad2 n cp2) = w3 := ⟨_, rfl⟩
        have HA3 : Blk w.heap.size (recC ⟨kind, seq, pos, homes, masked, sum⟩ (.slice ah n ch) (.slice am m cm)) 27 w3 := by rw [← hw3]; exact HA2.other (by show w.heap.size + 1 ≠ w.heap.size; omega) _
        have HB3 : RecAt (w.heap.size + 1) kind seq pos (.slice ad2 n cp2) (.slice am m cm) sum w3 := by rw [← hw3]; exact HB2.set 3 _
        have hsz3 : w3.heap.size = w2.heap.size := by rw [← hw3]; exact size_set _ _ _
        have hb3 : Below w.heap.size w w3 := by rw [← hw3]; exact (hb0.trans (q2.mono (by omega))).setCell (show w.heap.size ≤ w.heap.size + 1 by omega) _
        have h3 : w3.ownsRow w0.heap.size 3 1 (.slice ad2 (n + 2) cp2) (n + 2) ((homes ++ [-70, -71]).map (Value.int .i64)) := row_same h2 fun j hj => by rw [← hw3]; exact Below.heap_setCell w2 _ _ j (by show j ≠ w.heap.size + 1; omega)
        have HT3 := Lib.hid h3
        have HBX := Lib.hid (And.intro HA3 HB3)
        have HB3b := Lib.hid hb3
        rw [hw3]
        have ROW_b : RowIn 1 (.slice am m cm) m (masked.map Value.bool) w3 := by have := hrB.kept hb3; unfold BoolsIn at this; rw [hm] at this; exact this
        have KS_b : ∀ W, Below w3.heap.size w3 W → (W.cell? ⟨w.heap.size, 4, none⟩ = some (.slice am m cm) ∧ W.cell? ⟨w.heap.size + 1, 4, none⟩ = some (.slice am m cm) ∧ W.frozen? ⟨w.heap.size + 1, 4, none⟩ = false) := fun W b => ⟨(HA3.kept1 b).cell 4, (HB3.kept1 b).cell 4, (HB3.kept1 b).frozen 4⟩
        clear row_i one_i mk_i KS hM hB OO TT T0 BL H2one hwr HA HB HA2 HB2 h2 h3 hw3 HW0 hb3 HA3 HB3
        have HS3 := Lib.hid hsz3
        clear hsz3 hs0
        have one_b : ∀ x ∈ masked.map Value.bool, x.oneCell' = true := fun x hx => by obtain ⟨_, _, rfl⟩ := List.mem_map.1 hx; rfl
        have row_b := Lib.hid (fun (W : World) (b : Below w3.heap.size w3 W) => ROW_b.kept b)
        have mk_b : ∀ W, (Instr.makeSlice 24 (.int .i64 0) (.int .i64 ((m : Int) + 2))).run Try.prog W = .ok (.slice (some ⟨W.heap.size, 0, none⟩) 0 (m + 2)) (W.alloc (.cells (madeCells #[.bool false] (m + 2)) 4)) := fun W => by
          have := (room_bools (m + 2) (by omega) W).1
          rwa [show ((m + 2 : Nat) : Int) = (m : Int) + 2 by omega] at this
        have bd : Below w3.heap.size w3 w3.drew := (Below.refl _ _).drew
        have hwr : IntKind.i64.wrap ((m : Int) + 2) = (m : Int) + 2 := IntWalk.i64_in _ (by omega)
        have KS := Lib.hid KS_b
        obtain ⟨M, hM⟩ : ∃ M : Obj, (.cells (madeCells #[.bool false] (m + 2)) 4) = M := ⟨_, rfl⟩
        have O0 := fun W => (room_bools (m + 2) (by omega) W).2
        rw [hM] at mk_b O0
        obtain ⟨B, hB⟩ : ∃ B : Obj, (.cells #[.bool true, .bool false] 4) = B := ⟨_, rfl⟩
        have T0 := fun W => two_in W (.bool true) (.bool false) 4
        rw [hB] at T0
        have bM := balloc1 w3 M
        have bB := balloc1 w3 B
        have bMB := balloc bM B
        have bBM := balloc bB M
        have O3 : (w3.alloc M).drew.ownsRow w3.heap.size 4 1 (.slice (some ⟨w3.heap.size, 0, none⟩) 0 (m + 2)) 0 [] := O0 w3
        have O1 : ((w3.alloc M).alloc B).drew.ownsRow w3.heap.size 4 1 (.slice (some ⟨w3.heap.size, 0, none⟩) 0 (m + 2)) 0 [] := (O0 w3).alloc B
        have O2 : ((w3.alloc B).alloc M).drew.ownsRow w3.heap.size 4 1 (.slice (some ⟨w3.heap.size + 1, 0, none⟩) 0 (m + 2)) 0 [] := by
          have := row_down (show w3.heap.size ≤ (w3.alloc B).heap.size by rw [size_alloc]; omega) (O0 (w3.alloc B))
          rw [size_alloc] at this
          exact this
        have T1 : RowIn 1 (.slice (some ⟨w3.heap.size + 1, 0, none⟩) 2 2) 2 [.bool true, .bool false] ((w3.alloc M).alloc B).drew := by
          have := T0 (w3.alloc M)
          rw [size_alloc] at this
          exact this
        have T2 : RowIn 1 (.slice (some ⟨w3.heap.size, 0, none⟩) 2 2) 2 [.bool true, .bool false] ((w3.alloc B).alloc M).drew := (T0 w3).kept (balloc1 (w3.alloc B) M).drew
        have OO := Lib.hid (And.intro O1 (And.intro O2 O3))
        have TG1 : ∀ w1, ((w3.alloc M).alloc B).drew.grownBy w1 (some w3.heap.size) → RowIn 1 (.slice (some ⟨w3.heap.size + 1, 0, none⟩) 2 2) 2 [.bool true, .bool false] w1 := fun w1 g => in_grown T1 (by decide) g (fun e => by have e2 : w3.heap.size = w3.heap.size + 1 := Option.some.inj e; omega)
        have TG2 : ∀ w1, ((w3.alloc B).alloc M).drew.grownBy w1 (some (w3.heap.size + 1)) → RowIn 1 (.slice (some ⟨w3.heap.size, 0, none⟩) 2 2) 2 [.bool true, .bool false] w1 := fun w1 g => in_grown T2 (by decide) g (fun e => by have e2 : w3.heap.size + 1 = w3.heap.size := Option.some.inj e; omega)
        have TT := Lib.hid (And.intro TG1 TG2)
        have T0 := Lib.hid T0
        have BL := Lib.hid (And.intro bd (And.intro bM (And.intro bB (And.intro bMB bBM))))
        have H2one : ∀ x ∈ ([.bool true, .bool false] : List Value), x.oneCell' = true := fun x hx => by
          rcases List.mem_cons.1 hx with rfl | hx
          · rfl
          · rw [List.mem_singleton] at hx; subst hx; rfl
        clear TG1 TG2 O0 O1 O2 O3 T1 T2 bd bM bB bMB bBM ROW_b KS_b
        go_upto_region 5 with fail
        go_cut [] (fun wx => ∃ ad2 cp2 w2, wx = w2.setCell ⟨w.heap.size + 1, 4, none⟩ (.slice ad2 m cp2) ∧ w2.ownsRow w3.heap.size 4 1 (.slice ad2 (m + 2) cp2) (m + 2) ((masked ++ [true, false]).map Value.bool) ∧ Below w3.heap.size w3 w2)
        case first =>
          go_region_held3 (fun w' => w'.cell? ⟨w.heap.size, 4, none⟩ = some (.slice am m cm))
            (first | exact (KS.out _ (by first | assumption | exact BL.out.1 | exact BL.out.2.1.drew | exact BL.out.2.2.1.drew | exact BL.out.2.2.2.1.drew | exact BL.out.2.2.2.2.drew | exact (balloc (show Below w3.heap.size w3 _ by assumption) _).drew | exact balloc (show Below w3.heap.size w3 _ by assumption) _)).1 | (rw [World.cell?_setCell_other _ _ _ _ (fun e => by have e2 : w.heap.size + 1 = w.heap.size := congrArg Addr.block e; omega)]; exact (KS.out _ (show Below w3.heap.size w3 _ by assumption)).1) | (rw [World.cell?_setCell_other _ _ _ _ (fun e => by have e2 : w.heap.size = w.heap.size + 1 := congrArg Addr.block e; omega)]; exact (KS.out _ (show Below w3.heap.size w3 _ by assumption)).1))
            (first | (refine step_app rfl _ _ 24 4 (.bool false) 1 rfl Try.underlying24 kbool_info rfl (by decide) w3.heap.size _ 0 [] rfl (by first | exact OO.out.1 | exact OO.out.2.1 | exact OO.out.2.2) _ m (masked.map Value.bool) rfl (by first | exact row_b.out _ BL.out.2.2.2.1.drew | exact row_b.out _ BL.out.2.2.2.2.drew | exact row_b.out _ BL.out.2.1.drew) one_b (by omega) (by first | exact BL.out.2.2.2.1.size | exact BL.out.2.2.2.2.size | exact BL.out.2.1.size) ?_; intro v1 w1 h1 g1 k1; rw [Nat.zero_add, List.nil_append] at h1; have q1 : Below w3.heap.size w3 w1 := (by first | exact BL.out.2.2.2.1.drew.trans k1 | exact BL.out.2.2.2.2.drew.trans k1 | exact BL.out.2.1.drew.trans k1); first | (have t1 := TT.out.1 _ g1) | (have t1 := TT.out.2 _ g1) | (have t3 : True := trivial)) | (refine step_app rfl _ _ 24 4 (.bool false) 1 rfl Try.underlying24 kbool_info rfl (by decide) w3.heap.size _ m (masked.map Value.bool) rfl (by first | exact h1 | exact h1.alloc B) _ 2 [.bool true, .bool false] rfl (by first | exact t1 | exact T0.out w1) H2one (by omega) (by first | exact q1.size | exact (balloc q1 B).size) ?_; intro v2 w2 h2 g2 k2; have q2 : Below w3.heap.size w3 w2 := (by first | exact q1.trans k2 | exact (balloc q1 B).trans k2); obtain ⟨ad2, cp2, e2, s1, s2, s3⟩ := shape_of h2; subst e2; have s2 : cp2 ≤ 9223372036854775807 := s2; have z1 : (m : Int) ≤ (cp2 : Int) := (by omega); have z0 : (0 : Int) ≤ (m : Int) := (by omega); obtain ⟨-, cb2, fb2⟩ := KS.out w2 q2))
          all_goals (go_wp2; go_meet; exact ⟨ad2, cp2, w2, rfl, by rw [List.map_append]; exact h2, q2⟩)
        case rest =>
          obtain ⟨ad4, cp4, w4, rfl, h4, q4⟩ := hcut
          obtain ⟨HA3, HB3⟩ := HBX.out
          have hs0 := HS0.out
          have hsz3 := HS3.out
          have HA4 := HA3.kept1 q4
          have HB4 := HB3.kept1 q4
          have h34 := row_kept HT3.out q4
          obtain ⟨w5, hw5⟩ : ∃ w5, w4.setCell ⟨w.heap.size + 1, 4, none⟩ (.slice ad4 m cp4) = w5 := ⟨_, rfl⟩
          have HA5 : Blk w.heap.size (recC ⟨kind, seq, pos, homes, masked, sum⟩ (.slice ah n ch) (.slice am m cm)) 27 w5 := by rw [← hw5]; exact HA4.other (by show w.heap.size + 1 ≠ w.heap.size; omega) _
          have HB5 : RecAt (w.heap.size + 1) kind seq pos (.slice ad2 n cp2) (.slice ad4 m cp4) sum w5 := by rw [← hw5]; exact HB4.set 4 _
          have hb5 : Below w.heap.size w w5 := by rw [← hw5]; exact (HB3b.out.trans (q4.mono (by omega))).setCell (show w.heap.size ≤ w.heap.size + 1 by omega) _
          have T5i : w5.ownsRow w0.heap.size 3 1 (.slice ad2 (n + 2) cp2) (n + 2) ((homes ++ [-70, -71]).map (Value.int .i64)) := row_same h34 fun j hj => by rw [← hw5]; exact Below.heap_setCell w4 _ _ j (by show j ≠ w.heap.size + 1; omega)
          have T5b : w5.ownsRow w3.heap.size 4 1 (.slice ad4 (m + 2) cp4) (m + 2) ((masked ++ [true, false]).map Value.bool) := row_same h4 fun j hj => by rw [← hw5]; exact Below.heap_setCell w4 _ _ j (by show j ≠ w.heap.size + 1; omega)
          have RT : RecIn ⟨kind, seq, pos, homes, masked, sum⟩ (.slice ad2 n cp2) (.slice ad4 m cp4) w5 := ⟨twin_in hn T5i, twin_in hm T5b⟩
          have RR : RecIn ⟨kind, seq, pos, homes, masked, sum⟩ (.slice ah n ch) (.slice am m cm) w5 := ⟨hrI.kept hb5, hrB.kept hb5⟩
          obtain ⟨g2, rfl, hg2, c2a, c2b, q2a, q2b⟩ := twin_ends hn T5i
          obtain ⟨g4, rfl, hg4, c4a, c4b, q4a, q4b⟩ := twin_ends hm T5b
          have E1 := Lib.hid (EA.out _ _ w5 RT)
          obtain ⟨x0, x1, x2, x3, x4, x5⟩ := rec_cells HB5
          rw [hw5]
          clear row_b one_b mk_b KS hM hB OO TT T0 BL H2one hwr HA3 HB3 HA4 HB4 h34 h4 q4 hs0 hsz3 hw5 HBX T5i T5b
          go_wp2_with fail
          refine E1.out.mono ?_; rintro e w6 ⟨rfl, k6⟩
          have HA6 := HA5.kept1 k6
          have HB6 := HB5.kept1 k6
          have hb6 := bnext hb5 k6
          have RT6 := RT.kept k6
          have RR6 := RR.kept k6
          have hs6 := k6.size
          have p2a := (k6.cell (p := ⟨g2, n, none⟩) hg2).trans q2a
          have p2b := (k6.cell (p := ⟨g2, n + 1, none⟩) hg2).trans q2b
          have p4a := (k6.cell (p := ⟨g4, m, none⟩) hg4).trans q4a
          have p4b := (k6.cell (p := ⟨g4, m + 1, none⟩) hg4).trans q4b
          have hg2' : g2 < w6.heap.size := by omega
          have hg4' : g4 < w6.heap.size := by omega
          clear E1 x0 x1 x2 x3 x4 x5 HA5 HB5 hb5 RT RR k6 q2a q2b q4a q4b hg2 hg4 hs6
          have E2 := Lib.hid (EB.out _ _ w6 RR6)
          obtain ⟨x0, x1, x2, x3, x4, x5⟩ := rec_cells HA6
          go_wp2_with fail
          refine E2.out.mono ?_; rintro e w7 ⟨rfl, k7⟩
          have HA7 := HA6.kept1 k7
          have HB7 := HB6.kept1 k7
          have hb7 := bnext hb6 k7
          have S7 := Lib.hid (SM.out _ _ w7 (RT6.kept k7) (RR6.kept k7))
          have hs7 := k7.size
          have q2a := (k7.cell (p := ⟨g2, n, none⟩) hg2').trans p2a
          have q2b := (k7.cell (p := ⟨g2, n + 1, none⟩) hg2').trans p2b
          have q4a := (k7.cell (p := ⟨g4, m, none⟩) hg4').trans p4a
          have q4b := (k7.cell (p := ⟨g4, m + 1, none⟩) hg4').trans p4b
          have hg2 : g2 < w7.heap.size := by omega
          have hg4 : g4 < w7.heap.size := by omega
          clear E2 x0 x1 x2 x3 x4 x5 HA6 HB6 hb6 RT6 RR6 k7 p2a p2b p4a p4b hg2' hg4' hs7
          obtain ⟨x0, x1, x2, x3, x4, x5⟩ := rec_cells HA7
          obtain ⟨y0, y1, y2, y3, y4, y5⟩ := rec_cells HB7
          have dc2 : decide ((cp2 : Int) < (n : Int) + 2) = false := decide_eq_false (by omega)
          have dc4 : decide ((cp4 : Int) < (m : Int) + 2) = false := decide_eq_false (by omega)
          go_wp2_with fail
          refine S7.out.mono ?_; rintro e w8 ⟨rfl, k8⟩
          have HA8 := HA7.kept1 k8
          have hb8 := bnext hb7 k8
          have p2a := (k8.cell (p := ⟨g2, n, none⟩) hg2).trans q2a
          have p2b := (k8.cell (p := ⟨g2, n + 1, none⟩) hg2).trans q2b
          have p4a := (k8.cell (p := ⟨g4, m, none⟩) hg4).trans q4a
          have p4b := (k8.cell (p := ⟨g4, m + 1, none⟩) hg4).trans q4b
          clear S7 x0 x1 x2 x3 x4 x5 y0 y1 y2 y3 y4 y5 HA7 HB7 hb7 k8 q2a q2b q4a q4b
          obtain ⟨x0, x1, x2, x3, x4, x5⟩ := rec_cells HA8
          go_wp2_with fail
          refine (AL.out _).mono ?_; rintro e w9 ⟨rfl, k9⟩
          have hb9 := bnext hb8 k9
          clear x0 x1 x2 x3 x4 x5 HA8 hb8 k9 p2a p2b p4a p4b
          go_wp2
          go_ret
          exact ⟨rfl, hb9⟩
    · obtain ⟨kind, seq, pos, homes, masked, sum⟩ := r
      dsimp only at l1 l2
      clear hr f
      go_enter Try.func3, Try.ntmps3
      go_wp2
      go_ret
      exact ⟨rfl, hb00⟩
  · obtain ⟨kind, seq, pos, homes, masked, sum⟩ := r
    dsimp only at l1
    clear hr f
    go_enter Try.func3, Try.ntmps3
    go_wp2
    go_ret
    exact ⟨rfl, hb00⟩
end Go.Proofs.Ythkmcfomnkcljaa
