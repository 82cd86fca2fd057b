/- The cache's add. -/
import Derived.Test.YtehjobjjlldckaaGreatCClean
namespace Go.Proofs.YtehjobjjlldckaaGreat
set_option linter.unusedVariables false
open Go.RowKit

abbrev newRec (b : Nat) : Rec := ⟨b, ⟨#[]⟩, false, false, 0⟩
def AddRet (c d lo hi m uses b : Nat) (o : Option Nat) (V : Nat → Rec) (G : List Nat) (C : CS) (w : World) (e : Ending) (w' : World) : Prop :=
  ∃ gq cap A, e = .returned (ptrV w.heap.size) ∧ Hand c d lo hi m gq cap uses A (upd V w.heap.size (newRec b)) (upd V w.heap.size (newRec b)) G w.heap.size C w' ∧ Turn (MSet c m o G) w w' ∧ (o = some gq ∨ w.heap.size ≤ gq)
theorem Cache.added {c d lo hi m uses b : Nat} {o : Option Nat} {A : Nat → Nat} {V : Nat → Rec} {G : List Nat} {C : CS} {w w1 w2 w3 : World} (h : Cache c d lo hi m o uses A V G C w) (hb : b < C.st.n) (hn : adrOf V G b = none) (hr : G.length < C.most)
    (hw1 : w1 = w.alloc (.cells (recCells (newRec b) 0) 91)) (hm : MapAt m (G.length + 1) (updO (adrOf V G) b (some w.heap.size)) w2) (t2 : Turn (fun j => j = m) w1 w2)
    {e : Ending} (hp : PushRet c (cellsC c d m C.most uses) o G.length w.heap.size A (upd V w.heap.size (newRec b)) w2 e w3) :
    e = .returned (.tuple #[]) ∧ AddRet c d lo hi m uses b o V G C w (.returned (ptrV w.heap.size)) w3 := by
  obtain ⟨gq, cap, B, rfl, hq, hh, hs, t3, hfar⟩ := hp
  refine ⟨rfl, gq, cap, B, rfl, ?_, ?_, ?_⟩
  rotate_right
  · rcases hfar with e | e
    · exact .inl e
    · have := t2.size; rw [hw1, size_alloc] at this; exact .inr (by omega)
  rotate_right
  · have t1 : Turn (MSet c m o G) w w1 := by rw [hw1]; exact Turn.of_below (balloc1 _ _) _
    refine (t1.then t2 fun k _ hk => .inr (.inl hk)).then t3 fun k hk hm => ?_
    rcases hm with e | e | e | ⟨i, hi, e⟩
    · exact .inl e
    · omega
    · exact .inr (.inr (.inl e))
    · exact .inr (.inr (.inr ((h.mem k).1 ⟨i, hi, e.symm⟩)))
  have hGs : ∀ x, x ∈ G → x < w.heap.size := fun x hx => by
    obtain ⟨gq, cap, _, hq⟩ := h.queue hx
    obtain ⟨i, hi, rfl⟩ := (h.mem x).2 hx
    exact (hq.item i hi).lt
  have hgG : w.heap.size ∉ G := fun hm => Nat.lt_irrefl _ (hGs _ hm)
  have hne : ∀ x, x ∈ G → upd V w.heap.size (newRec b) x = V x := fun x hx => upd_other _ (fun (e : x = w.heap.size) => hgG (e ▸ hx)) _
  obtain ⟨q0, hb0⟩ := h.blk
  have hc := hb0.lt
  have hmlt := h.mp.lt
  have htop := h.dev.top
  have s1 : w1.heap.size = w.heap.size + 1 := by rw [hw1, size_alloc]
  have hfar2 : o = some gq ∨ w.heap.size < gq := by
    rcases hfar with e | e
    · exact .inl e
    · have := t2.size; exact .inr (by omega)
  have hoz : ∀ k, o = some k → ¬ (lo ≤ k ∧ k < hi) := h.parts.zo
  have hom : ∀ k, o = some k → k ≠ m := fun k e e2 => h.parts.om (by rw [e, e2])
  have hdev1 : DevAt d lo hi C.st w1 := by rw [hw1]; exact h.dev.kept1 (balloc1 _ _)
  have hdev2 := dev_turn hdev1 t2 fun k hk => by rw [hk]; exact h.parts.zm
  have hno : ∀ k, (k = c ∨ k = w.heap.size ∨ o = some k ∨ ∃ i, i < G.length ∧ k = A i) → ¬ (lo ≤ k ∧ k < hi) ∧ k ≠ m := by
    rintro k (rfl | rfl | e | ⟨i, hi, rfl⟩)
    · exact ⟨h.parts.zc, Ne.symm h.parts.mc⟩
    · exact ⟨by omega, by omega⟩
    · exact ⟨hoz k e, hom k e⟩
    · have := (h.mem _).1 ⟨i, hi, rfl⟩
      exact ⟨h.parts.zg _ this, h.parts.gm _ this⟩
  refine ⟨h.ok, dev_turn hdev2 t3 fun k hk => (hno k hk).1, hq, hh, fun _ _ _ => rfl, ?_, ?_, fun x => ?_, hgG, ?_, fun x hx => ?_, fun x hx => ?_, hr, ?_, ?_⟩
  · rw [upd_same, show adrOf (upd V w.heap.size (newRec b)) G = adrOf V G from funext fun k => adr_congr (fun x hx => by rw [hne x hx]) k]
    exact hm.turn t3 fun hk => (hno m hk).2 rfl
  · rw [h.list]; exact bufs_congr fun x hx => by rw [hne x hx]
  · constructor
    · rintro ⟨i, hi, rfl⟩
      obtain ⟨j, hj, e⟩ := same_mem hs hi
      rw [e]
      by_cases ej : j = G.length
      · subst ej; rw [upd_same]; exact .inr rfl
      · rw [upd_other _ ej]; exact .inl ((h.mem _).1 ⟨j, by omega, rfl⟩)
    · rintro (hx | rfl)
      · obtain ⟨j, hj, rfl⟩ := (h.mem x).2 hx
        obtain ⟨i, hi, e⟩ := same_mem (same_symm hs) (k := j) (by omega)
        rw [upd_other _ (by omega)] at e
        exact ⟨i, hi, e.symm⟩
      · obtain ⟨i, hi, e⟩ := same_mem (same_symm hs) (k := G.length) (by omega)
        rw [upd_same] at e
        exact ⟨i, hi, e.symm⟩
  · refine List.Pairwise.imp_of_mem ?_ h.rise
    intro a b ha hb hab
    rw [hne a ha, hne b hb]; exact hab
  · rw [hne x hx]; exact h.most x hx
  · rw [hne x hx, upd_same]
    intro e
    exact adr_none hn x hx (by rw [e])
  · rw [upd_same]; exact hb
  · refine ⟨h.parts.mc, ?_, fun x hx => ?_, h.parts.zc, h.parts.zm, fun k hk => ?_, fun x hx => ?_⟩
    · rcases hfar2 with e | e
      · rw [← e]; exact h.parts.om
      · intro e2; injection e2 with e2; omega
    · rcases List.mem_cons.1 hx with rfl | hx
      · omega
      · exact h.parts.gm x hx
    · rcases hfar2 with e | e
      · exact hoz k (e.trans hk)
      · injection hk with hk; omega
    · rcases List.mem_cons.1 hx with rfl | hx
      · omega
      · exact h.parts.zg x hx
theorem QQ.alloc {c n : Nat} {K : Value → Array Value} {o : Option Nat} {A : Nat → Nat} {V : Nat → Rec} {w : World} (h : QQ c K o n A V w) (b : Obj) : QQ c K o n A V (w.alloc b) :=
  h.turn (Turn.of_below (balloc1 w b) fun _ => False) (fun h => h) (fun _ _ h => h) fun _ _ h => h
set_option maxRecDepth 100000 in
set_option maxHeartbeats 4000000 in
theorem add_any {c d lo hi m uses b : Nat} {o : Option Nat} {A : Nat → Nat} {V : Nat → Rec} {G : List Nat} {C : CS} (w : World) (h : Cache c d lo hi m o uses A V G C w) (hb : b < C.st.n) (hn : adrOf V G b = none) (hr : G.length < C.most) :
    Calls Tryz.prog 63 #[cV c, .int .i64 (b : Int)] w (AddRet c d lo hi m uses b o V G C w) := by
  obtain ⟨q0, hblk⟩ := h.blk
  have hi256 := h.ok.hi
  have hst := h.ok.st.hi
  have hbI : I64 (b : Int) := ⟨by omega, by omega⟩
  have hGs : ∀ x, x ∈ G → x < w.heap.size := fun x hx => by
    obtain ⟨gq, cap, _, hq⟩ := h.queue hx
    obtain ⟨i, hi, rfl⟩ := (h.mem x).2 hx
    exact (hq.item i hi).lt
  have hAs : ∀ i, i < G.length → A i < w.heap.size := fun i hi => hGs _ ((h.mem _).1 ⟨i, hi, rfl⟩)
  have hbl := hblk.kept1 (balloc1 w (.cells (recCells (newRec b) 0) 91))
  have c5 : (w.alloc (.cells #[.int .i64 (b : Int), .string ⟨#[]⟩, .bool false, .bool false, .int .i64 0, .int .i64 0] 91)).cell? ⟨c, 5, none⟩ = some (.map (some m)) := hbl.cell 5
  have hmp := h.mp.turn (Turn.of_below (balloc1 w (.cells #[.int .i64 (b : Int), .string ⟨#[]⟩, .bool false, .bool false, .int .i64 0, .int .i64 0] 91)) fun _ => False) (fun h => h)
  have P : Hid (∀ w2, MapAt m (G.length + 1) (updO (adrOf V G) b (some w.heap.size)) w2 → Turn (fun j => j = m) (w.alloc (.cells (recCells (newRec b) 0) 91)) w2 →
      Calls Tryz.prog 76 #[hV c, .iface 80 (ptrV w.heap.size)] w2 fun e w3 => e = .returned (.tuple #[]) ∧ AddRet c d lo hi m uses b o V G C w (.returned (ptrV w.heap.size)) w3) := Lib.hid (by
    intro w2 hm2 t2
    have hqa := h.q.congrV (V' := upd V w.heap.size (newRec b)) fun i hi => (upd_other _ (by have := hAs i hi; omega) _).symm
    have hq2 := (hqa.alloc (.cells (recCells (newRec b) 0) 91)).turn t2 (Ne.symm h.parts.mc) (fun k e e2 => h.parts.om (by rw [e, e2])) (fun i hi => h.parts.gm _ ((h.mem _).1 ⟨i, hi, rfl⟩))
    have hmlt := h.mp.lt
    have hclt := hblk.lt
    have hgb : Blk w.heap.size (recCells (upd V w.heap.size (newRec b) w.heap.size) 0) 91 w2 := by
      rw [upd_same]
      exact (Blk.new _ _ w).turn t2 (by omega)
    have ho : o ≠ some w.heap.size := by
      intro e
      subst e
      obtain ⟨cap, hq⟩ := h.q
      obtain ⟨cur, bq, _⟩ := hq.row
      have := bq.lt
      omega
    have hhp : heapTo (kV (upd V w.heap.size (newRec b))) A G.length := fun k h0 hk => by
      have hp : par k < k := by unfold par; omega
      have a1 := hAs k hk
      have a2 := hAs (par k) (by omega)
      unfold kV
      rw [upd_other _ (by omega), upd_other _ (by omega)]
      exact h.heap k h0 hk
    refine (push_any (by omega) w2 hq2 hhp hgb (by omega) ho (fun i hi => by have := hAs i hi; omega) (by rw [upd_same]; show 0 < _; omega)).mono ?_
    intro e w3 hp
    exact h.added hb hn hr rfl hm2 t2 hp)
  have HN := Lib.hid hn
  have s0 : (w.alloc (.cells #[.int .i64 (b : Int), .string ⟨#[]⟩, .bool false, .bool false, .int .i64 0, .int .i64 0] 91)).heap.size = w.heap.size + 1 := size_alloc _ _
  have f5 : m < w.heap.size := h.mp.lt
  have cM := hblk.lt
  have hcm := h.parts.mc
  have HB := Lib.hid hbl
  clear h hblk hGs hAs hn hbl
  go_enter Tryz.func63, Tryz.ntmps63
  go_wp2_with (at_mapUpdate; refine wpList_mapPut rfl _ _ _ rfl hmp (by omega) (b : Int) hbI HN.out w.heap.size rfl rfl rfl ?_)
  intro w2 hm2 t2
  have P1 := Lib.hid (P.out w2 hm2 t2)
  clear P hm2 t2 hmp c5 s0 HB HN
  unfold ptrV at P1
  go_wp2_with fail
  refine P1.out.mono ?_; rintro e w3 ⟨rfl, hR⟩
  have HR := Lib.hid hR
  clear P1 hR
  go_wp2
  go_ret
  exact HR.out
end Go.Proofs.YtehjobjjlldckaaGreat
