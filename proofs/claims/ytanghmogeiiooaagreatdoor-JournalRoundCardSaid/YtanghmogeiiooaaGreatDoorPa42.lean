import Derived.Test.YtanghmogeiiooaaGreatDoorPa10
import Derived.Test.YtanghmogeiiooaaGreatDoorPa28
import Derived.RangeFuncMany
import Derived.Sort.MapsRangeIn
import Derived.Lib.SlKeysI
set_option linter.unusedVariables false
set_option linter.unusedSimpArgs false
set_option linter.constructorNameAsVariable false
/- maps.Values of the net effect's map: its iterator. -/
namespace Go.Proofs.YtanghmogeiiooaaGreatDoor
set_option linter.unusedVariables false
set_option linter.unusedSimpArgs false
open Go.RowKit Go.Shelf Go.Maps Go.Sort
attribute [local go_sem] Oper.semAt_some

/-- all of f's changes have come, in some order -/
def AllOf (f : Int → Option ByteArray) (xs : List (Int × ByteArray)) : Prop := (xs.map Prod.fst).Nodup ∧ (∀ b : Int, I64 b → (b ∈ xs.map Prod.fst ↔ (f b).isSome = true)) ∧ ∀ c ∈ xs, f c.1 = some c.2 ∧ I64 c.1
theorem mapC_size {m n : Nat} {D : DataW Unit} {w : World} (h : w.ownsMap Tryz.prog 3 chgR m n D) : Maps.size D ≤ n := by
  obtain ⟨es, clock, h1, h2, h3, h4⟩ := h
  have h5 : Maps.size D = es.size := by rw [h4]; simp [Maps.size, length_sorted]
  omega
theorem cvalues_any (m : Nat) (w : World) : Calls Tryz.prog 66 #[.map (some m)] w fun e w' =>
    e = .returned (.func (.func 95) #[] #[.pointer (some ⟨w.heap.size, 0, none⟩)]) ∧ w' = w.alloc (.cells #[.map (some m)] 126) := by
  go_enter Tryz.func66, Tryz.ntmps66
  go_wp2
  go_ret
  exact ⟨rfl, rfl⟩
set_option maxRecDepth 100000 in
set_option maxHeartbeats 4000000 in
theorem cvals_in (n l Bm m nn : Nat) (f : Int → Option ByteArray) (J Jx : List (Int × ByteArray) → World → Prop)
    (hY : ∀ pre x W, J pre W → pre.length < nn → YieldAt Fence.wide (n - 1) Tryz.prog l #[chgV x] W fun e W' =>
      (e = .returned (.bool true) ∧ J (pre ++ [x]) W' ∧ KeepsWalks W W') ∨ (e = .returned (.bool false) ∧ Jx (pre ++ [x]) W'))
    (W : World) (hJ : AbidesFrom W.heap.size J) (hm : W.cell? ⟨Bm, 0, none⟩ = some (.map (some m))) (hmap : MapC m nn f W) (h0 : J [] W) :
    CallsIn Fence.wide n Tryz.prog 95 #[.func (.yield l) #[] #[], .pointer (some ⟨Bm, 0, none⟩)] W fun e W' => (∃ v, e = .returned v) ∧
      ((∃ xs, AllOf f xs ∧ J xs W') ∨ (∃ pre : List (Int × ByteArray), True ∧ Jx pre W')) := by
  have mixed : Tryz.prog.follows .mixedOrders = true := by kernel_rfl
  have gc : Tryz.prog.stoodInHeld 61 = false := by kernel_rfl
  obtain ⟨D0, hown, hf⟩ := hmap
  have HF := Lib.hid hf
  have HSZ := Lib.hid (mapC_size hown)
  clear hf
  refine callsIn_of_wp Tryz.func95 rfl trivial ?_ rfl
  simp only [Tryz.ntmps95, List.size_toArray, List.length_cons, List.length_nil, Nat.reduceAdd, Nat.reduceSub, Array.replicate_succ, Array.replicate_zero, List.push_toArray, List.append_toArray, List.nil_append, List.cons_append]
  gi_wp2_with (first
    | (gi_at_range; refine wpListIn_range_own _ rfl _ 126 rfl 3 61 claw Tryz.underlying126 chgR m nn _ rfl hown ?_; intro w0 hrg0 hg0 hs0)
    | gi_in)
  go_frame
  gi_loopw [] (fun wr => ∃ (left : Lit → Bool) (cnt : Nat) (ps : List (Int × ByteArray)), wr.ranges Tryz.prog 3 chgR m W.heap.size nn D0 left cnt ∧ ps.length + cnt ≤ Maps.size D0 ∧ CollectedI D0 left (ps.map Prod.fst) ∧ (∀ c ∈ ps, f c.1 = some c.2 ∧ I64 c.1) ∧ J ps wr)
    (fun wr => wr.rangeLeft m W.heap.size)
  case atStart =>
    exact ⟨_, _, [], hrg0, by simp, CollectedI.start D0, by simp, hJ [] W w0 none h0 hg0 (fun r e => by cases e)⟩
  case round =>
    obtain ⟨left, cnt, ps, hrg, hcs, hC, hV, hJs⟩ := hrel
    gi_wp2_with (first
      | (gi_at_next; refine wpListIn_next_ranges _ rfl _ rfl 3 claw chgR (Value.int .i64) chgV (fun key kl hk => by obtain ⟨x, hx, _⟩ := Maps.keyOf_int_inv Tryz.underlying3 hk; exact ⟨x, hx⟩) (fun v y hv => by obtain ⟨c, e, _⟩ := chgR_inv hv; exact ⟨c, e⟩) m W.heap.size nn _ _ _ rfl hrg ?_ ?_)
      | gi_in)
    · intro hc0 hl0
      gi_wp2
      go_end0
      refine ⟨⟨_, rfl⟩, .inl ⟨ps, ⟨hC.1, fun b hb => ?_, hV⟩, hJs⟩⟩
      rw [hC.2 b, hl0, (HF.out b hb).2]; simp
    · intro x c1 c2 kl yd yp w2 cnt2 hkey hlk hv hat hrg2 hlt hg2 hs2 hen
      obtain ⟨x', ex, rfl, hwf⟩ := Maps.keyOf_int_inv Tryz.underlying3 hkey
      obtain rfl : x = x' := by injection ex
      have hI : I64 x := by simpa [Lit.wf, IntKind.min, IntKind.max, IntKind.bits, IntKind.signed] using hwf
      obtain ⟨c', ec, ey⟩ := chgR_inv hv
      have hcc : c' = (c1, c2) := chgD_inj (by have := chgR_of (c1, c2); rw [hv] at this; injection this with this; rw [ey] at this; injection this)
      have hat2 := hat .nil
      rw [(HF.out x hI).1] at hat2
      have hfx : f x = some c2 ∧ c1 = x := by
        have ey1 : yd = chgD c' := by injection ey
        rw [ey1, hcc] at hat2
        cases hfx : f x with
        | none => rw [hfx] at hat2; unfold optD2 chgD at hat2; cases hat2
        | some d => rw [hfx] at hat2; have := chgD_inj hat2; injection this with a b; rw [b]; exact ⟨rfl, a.symm⟩
      obtain ⟨hfx, rfl⟩ := hfx
      have hJ2 : J ps w2 := hJ _ wr w2 (some W.heap.size) hJs hg2 (fun r e => by cases e; exact ⟨Nat.le_refl _, hrg.iter_walk⟩)
      have hJ3 : J ps (w2.alloc (.cells #[.int .i64 c1, .string c2] 61)) := hJ _ w2 _ none hJ2 (World.grownBy_alloc w2 _ none) (fun r e => by cases e)
      have hsz := HSZ.out
      obtain ⟨fn, tmps, assign, body, hy, hR⟩ := hY ps (c1, c2) _ hJ3 (by omega)
      have HR := Lib.hid hR
      have hC2 : CollectedI D0 (fun z => left z && !z.sameKey (.int .i64 c1)) ((ps ++ [(c1, c2)]).map Prod.fst) := by
        have := hC.step hlk hat; rw [List.map_append]; exact this
      have HC2 := Lib.hid hC2
      have HV2 : Hid (∀ c ∈ ps ++ [(c1, c2)], f c.1 = some c.2 ∧ I64 c.1) := Lib.hid fun c hc => (List.mem_append.1 hc).elim (hV c) (fun e => by rw [List.mem_singleton] at e; subst e; exact ⟨hfx, hI⟩)
      have HL : Hid ((ps ++ [(c1, c2)]).length + cnt2 ≤ Maps.size D0) := Lib.hid (by rw [List.length_append]; simp; omega)
      have HRG : Hid ((w2.alloc (.cells #[.int .i64 c1, .string c2] 61)).ranges Tryz.prog 3 chgR m W.heap.size nn D0 (fun z => left z && !z.sameKey (.int .i64 c1)) cnt2) := Lib.hid (hrg2.of_walks (KeepsOthers.alloc w2 _).walks)
      have HRG0 := Lib.hid hrg
      clear hs2 hR hC2 hJ2 hJ3 hJs hC hV hcs hrg2 hrg hg2 hat hat2 hv hfx hI hwf ec ey hcc hkey hlk hsz
      gi_wp2
      refine ⟨fun h => (by cases h), HR.out.mono ?_⟩
      rintro e W3 (⟨rfl, hJ3, hk3⟩ | ⟨rfl, hJx3⟩)
      · have HJ3 := Lib.hid hJ3
        have hrg3 := HRG.out.of_walks hk3
        have HRG3 := Lib.hid hrg3
        have HLT := Lib.hid hlt
        clear hJ3 hk3 HR hrg3 HRG hlt
        gi_wp2
        go_roundw
        case rel => exact ⟨_, cnt2, ps ++ [(c1, c2)], HRG3.out, HL.out, HC2.out, HV2.out, HJ3.out⟩
        case measure => rw [HRG3.out.left_eq, HRG0.out.left_eq]; exact HLT.out
      · gi_wp2
        refine bodyPost_ret (results_none rfl _ _ _) rfl ?_
        exact ⟨⟨_, rfl⟩, .inr ⟨_, trivial, hJx3⟩⟩
theorem cvals_stops (n Bm m nn : Nat) (f : Int → Option ByteArray) (w : World) (hBm : Bm < w.heap.size) (hm : w.cell? ⟨Bm, 0, none⟩ = some (.map (some m))) (hmap : MapC m nn f w) :
    SeqStopsK Fence.wide n Tryz.prog 95 #[.pointer (some ⟨Bm, 0, none⟩)] (fun c : Int × ByteArray => #[chgV c]) KeepsWalks (AllOf f) (fun _ => True) nn w := fun l J Jx W hW hJ _ hY h0 =>
  cvals_in n l Bm m nn f J Jx hY W hJ ((hW.cell (p := ⟨Bm, 0, none⟩) hBm).trans hm) (hmap.kept1 hW) h0
end Go.Proofs.YtanghmogeiiooaaGreatDoor
