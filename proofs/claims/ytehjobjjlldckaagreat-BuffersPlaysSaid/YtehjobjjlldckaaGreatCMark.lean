/- The cache's Dirty, Pinned. -/
import Derived.Test.YtehjobjjlldckaaGreatCMark0
namespace Go.Proofs.YtehjobjjlldckaaGreat
set_option linter.unusedVariables false
open Go.RowKit

section
variable {c d lo hi m uses : Nat} {o : Option Nat} {A : Nat → Nat} {V : Nat → Rec} {G : List Nat} {C : CS} {w : World}
/-- the queue's row, nil or not -/
theorem Cache.rowOf (h : Cache c d lo hi m o uses A V G C w) : ∃ ad cap, (ad = none → G.length = 0) ∧ (∀ k, k < G.length → ∃ gq, ad = some ⟨gq, 0, none⟩ ∧ gq < w.heap.size ∧ w.cell? ⟨gq, k, none⟩ = some (.pointer (some ⟨A k, 0, none⟩)) ∧ Blk (A k) (recCells (V (A k)) k) 91 w) ∧ G.length ≤ cap ∧ cap ≤ 9223372036854775807 ∧
    Blk c (cellsC c d m C.most uses (.slice ad G.length cap)) 68 w := by
  cases o with
  | none =>
    obtain ⟨h0, hb, _⟩ := h.q
    exact ⟨none, 0, fun _ => h0, fun k hk => by omega, by omega, by omega, by rw [h0]; exact hb⟩
  | some gq =>
    obtain ⟨cap, hq⟩ := h.q
    obtain ⟨cur, bq, _⟩ := hq.row
    exact ⟨some ⟨gq, 0, none⟩, cap, (fun e => (by cases e)), fun k hk => ⟨gq, rfl, bq.lt, hq.at hk, hq.item k hk⟩, hq.le, hq.hi, hq.blk⟩
theorem Cache.lists (h : Cache c d lo hi m o uses A V G C w) {P : Rec → Bool} {td tp : Bool} (hP : ∀ r, P r = ((!td || (bufOf r).dirty) && (!tp || (bufOf r).pin))) :
    ((markL (fun j => P (V (A j))) (fun j => (V (A j)).b) G.length).map fun k : Nat => (k : Int)).mergeSort (fun x y => decide (x ≤ y)) = (listB C td tp).map fun k : Nat => (k : Int) := by
  unfold listB
  refine sort_marks (markL_nodup fun i j hi hj e => ?_) fun x => ?_
  · have h1 := (h.mem _).1 ⟨i, hi, rfl⟩
    have h2 := (h.mem _).1 ⟨j, hj, rfl⟩
    have h3 := b_inj h.un h1 h2 e
    obtain ⟨gq, cap, _, hq⟩ := h.queue h1
    exact hq.inj i j hi hj h3
  · rw [markL_mem]
    unfold hasB
    rw [h.at]
    constructor
    · rintro ⟨i, hi, hp, rfl⟩
      have h1 := (h.mem _).1 ⟨i, hi, rfl⟩
      have hb : (V (A i)).b < C.st.n := h.ok.blk (bufOf (V (A i))) (by rw [h.list]; exact List.mem_map_of_mem (f := (fun g => bufOf (V g))) h1)
      refine ⟨hb, ?_⟩
      rw [adr_mem h.un h1]
      show ((!td || (bufOf (V (A i))).dirty) && (!tp || (bufOf (V (A i))).pin)) = true
      rw [← hP]; exact hp
    · rintro ⟨hx, hp⟩
      cases e : adrOf V G x with
      | none => rw [e] at hp; cases hp
      | some g =>
        rw [e] at hp
        obtain ⟨h1, h2⟩ := adr_some e
        obtain ⟨i, hi, rfl⟩ := (h.mem g).2 h1
        exact ⟨i, hi, by rw [hP]; exact hp, by omega⟩
end
theorem dirty_of (g p : Nat) (r : Rec) (w : World) (h : Blk g (recCells r p) 91 w) : Calls Tryz.prog 51 #[.pointer (some ⟨g, 0, none⟩)] w fun e w' => e = .returned (.bool r.dirty) ∧ w = w' := by
  obtain ⟨_, _, h2, h3, _, _⟩ := rec_cells h
  clear h
  go_enter Tryz.func51, Tryz.ntmps51
  go_wp2
  go_ret
  exact ⟨rfl, rfl⟩
set_option maxRecDepth 100000 in
set_option maxHeartbeats 4000000 in
theorem marked_dirty {c d lo hi m uses : Nat} {o : Option Nat} {A : Nat → Nat} {V : Nat → Rec} {G : List Nat} {C : CS} (w : World) (h : Cache c d lo hi m o uses A V G C w) :
    Calls Tryz.prog 50 #[cV c, .func (.func 51) #[] #[]] w fun e w' => ∃ v, e = .returned v ∧ NatsAt w.heap.size v (listB C true false) w' ∧ Below w.heap.size w w' := by
  obtain ⟨ad, cap, hqv, hrow, hle, hcap, hblk⟩ := h.rowOf
  have c0 : w.cell? ⟨c, 0, none⟩ = some (cV c) := hblk.cell 0
  have c6 : w.cell? ⟨c, 6, none⟩ = some (.slice ad G.length cap) := hblk.cell 6
  have MI := Lib.hid (cmissing_no c w c0)
  have HS := Lib.hid (h.lists (P := fun r => r.dirty) (td := true) (tp := false) fun r => by simp [bufOf])
  have hn := h.ok.len
  rw [h.len] at hn
  have hn2 := h.ok.hi
  have HI := Lib.hid hrow
  clear h hblk hqv hrow
  generalize G.length = n at *
  generalize listB C true false = S at *
  go_enter Tryz.func50, Tryz.ntmps50
  go_wp2_with fail
  refine MI.out.mono ?_; rintro e w' ⟨rfl, rfl⟩
  clear MI
  go_wp2
  go_loopw [5, 15] (fun v q wr => ∃ k : Nat, q = .int .i64 k ∧ k ≤ n ∧ NatsAt w.heap.size v (markL (fun j => (V (A j)).dirty) (fun j => (V (A j)).b) k) wr ∧ Below w.heap.size w wr) (fun _ q _ => n - (intOf q).toNat)
  case atStart => exact ⟨0, rfl, Nat.zero_le _, World.ownsRow_nil _ _ _ _, Below.refl _ _⟩
  case round =>
    obtain ⟨k, rfl, hk, hown, hb⟩ := hrel
    by_cases hlt : k < n
    · obtain ⟨gq, rfl, hgl, hqc, hbk⟩ := HI.out k hlt
      have q1 : wr.cell? ⟨gq, k, none⟩ = some (.pointer (some ⟨A k, 0, none⟩)) := (hb.cell (p := ⟨gq, k, none⟩) hgl).trans hqc
      have hbk2 : Blk (A k) (recCells (V (A k)) k) 91 wr := hbk.kept1 hb
      have MK := Lib.hid (dirty_of (A k) k (V (A k)) wr hbk2)
      have b0 : wr.cell? ⟨A k, 0, none⟩ = some (.int .i64 ((V (A k)).b : Int)) := hbk2.cell 0
      have hlen := markL_len (fun j => (V (A j)).dirty) (fun j => (V (A j)).b) k
      clear hgl hqc hbk hbk2 c0 c6 HI HS
      cases hp : (V (A k)).dirty with
      | true =>
        rw [hp] at MK
        have HY := Lib.hid (markL_yes (p := fun j => (V (A j)).dirty) (fun j => (V (A j)).b) (n := k) hp)
        clear hp
        have hs := hb.size
        generalize (V (A k)).b = bk at *
        generalize A k = ak at *
        go_wp2_with fail
        refine MK.out.mono ?_; rintro e w' ⟨rfl, rfl⟩
        clear MK
        go_wp2_with (at_builtin; refine wpList_app1 rfl _ _ rfl w.heap.size _ _ bk rfl (hown.alloc _) wr rfl rfl (by omega) (by rw [size_alloc]; omega) ?_)
        intro v' w2 h2 b2
        have hb3 := (hb.alloc hs (.cells #[.int .i64 (bk : Int)] 3)).trans b2
        rw [← HY.out] at h2
        clear hown hb b2 q1 b0
        go_wp2
        exact ⟨⟨k + 1, by go_num, by omega, h2, hb3⟩, by simp [intOf]; omega⟩
      | false =>
        rw [hp] at MK
        rw [← markL_no (p := fun j => (V (A j)).dirty) (fun j => (V (A j)).b) (n := k) hp] at hown
        clear hp
        generalize (V (A k)).b = bk at *
        generalize A k = ak at *
        go_wp2_with fail
        refine MK.out.mono ?_; rintro e w' ⟨rfl, rfl⟩
        clear MK
        go_wp2
        exact ⟨⟨k + 1, by go_num, by omega, hown, hb⟩, by simp [intOf]; omega⟩
    · obtain rfl : k = n := by omega
      have hlen := markL_len (fun j => (V (A j)).dirty) (fun j => (V (A j)).b) k
      have SO := fun v (h : NatsAt w.heap.size v (markL (fun j => (V (A j)).dirty) (fun j => (V (A j)).b) k) wr) => sort_any _ S HS.out w.heap.size v wr hb.size (by omega) h
      have S1 := Lib.hid (SO _ hown)
      have HB := Lib.hid hb
      clear SO hown hb HS HI c0 c6
      go_wp2_with fail
      refine S1.out.mono ?_; rintro e w2 ⟨rfl, h2, b2⟩
      have HF := Lib.hid (And.intro h2 (HB.out.trans b2))
      clear S1 h2 b2 HB
      go_wp2
      go_ret
      exact ⟨_, rfl, HF.out⟩
theorem isPinned_of (g p : Nat) (r : Rec) (w : World) (h : Blk g (recCells r p) 91 w) : Calls Tryz.prog 52 #[.pointer (some ⟨g, 0, none⟩)] w fun e w' => e = .returned (.bool r.pin) ∧ w = w' := by
  obtain ⟨_, _, h2, h3, _, _⟩ := rec_cells h
  clear h
  go_enter Tryz.func52, Tryz.ntmps52
  go_wp2
  go_ret
  exact ⟨rfl, rfl⟩
set_option maxRecDepth 100000 in
set_option maxHeartbeats 4000000 in
theorem marked_pinned {c d lo hi m uses : Nat} {o : Option Nat} {A : Nat → Nat} {V : Nat → Rec} {G : List Nat} {C : CS} (w : World) (h : Cache c d lo hi m o uses A V G C w) :
    Calls Tryz.prog 50 #[cV c, .func (.func 52) #[] #[]] w fun e w' => ∃ v, e = .returned v ∧ NatsAt w.heap.size v (listB C false true) w' ∧ Below w.heap.size w w' := by
  obtain ⟨ad, cap, hqv, hrow, hle, hcap, hblk⟩ := h.rowOf
  have c0 : w.cell? ⟨c, 0, none⟩ = some (cV c) := hblk.cell 0
  have c6 : w.cell? ⟨c, 6, none⟩ = some (.slice ad G.length cap) := hblk.cell 6
  have MI := Lib.hid (cmissing_no c w c0)
  have HS := Lib.hid (h.lists (P := fun r => r.pin) (td := false) (tp := true) fun r => by simp [bufOf])
  have hn := h.ok.len
  rw [h.len] at hn
  have hn2 := h.ok.hi
  have HI := Lib.hid hrow
  clear h hblk hqv hrow
  generalize G.length = n at *
  generalize listB C false true = S at *
  go_enter Tryz.func50, Tryz.ntmps50
  go_wp2_with fail
  refine MI.out.mono ?_; rintro e w' ⟨rfl, rfl⟩
  clear MI
  go_wp2
  go_loopw [5, 15] (fun v q wr => ∃ k : Nat, q = .int .i64 k ∧ k ≤ n ∧ NatsAt w.heap.size v (markL (fun j => (V (A j)).pin) (fun j => (V (A j)).b) k) wr ∧ Below w.heap.size w wr) (fun _ q _ => n - (intOf q).toNat)
  case atStart => exact ⟨0, rfl, Nat.zero_le _, World.ownsRow_nil _ _ _ _, Below.refl _ _⟩
  case round =>
    obtain ⟨k, rfl, hk, hown, hb⟩ := hrel
    by_cases hlt : k < n
    · obtain ⟨gq, rfl, hgl, hqc, hbk⟩ := HI.out k hlt
      have q1 : wr.cell? ⟨gq, k, none⟩ = some (.pointer (some ⟨A k, 0, none⟩)) := (hb.cell (p := ⟨gq, k, none⟩) hgl).trans hqc
      have hbk2 : Blk (A k) (recCells (V (A k)) k) 91 wr := hbk.kept1 hb
      have MK := Lib.hid (isPinned_of (A k) k (V (A k)) wr hbk2)
      have b0 : wr.cell? ⟨A k, 0, none⟩ = some (.int .i64 ((V (A k)).b : Int)) := hbk2.cell 0
      have hlen := markL_len (fun j => (V (A j)).pin) (fun j => (V (A j)).b) k
      clear hgl hqc hbk hbk2 c0 c6 HI HS
      cases hp : (V (A k)).pin with
      | true =>
        rw [hp] at MK
        have HY := Lib.hid (markL_yes (p := fun j => (V (A j)).pin) (fun j => (V (A j)).b) (n := k) hp)
        clear hp
        have hs := hb.size
        generalize (V (A k)).b = bk at *
        generalize A k = ak at *
        go_wp2_with fail
        refine MK.out.mono ?_; rintro e w' ⟨rfl, rfl⟩
        clear MK
        go_wp2_with (at_builtin; refine wpList_app1 rfl _ _ rfl w.heap.size _ _ bk rfl (hown.alloc _) wr rfl rfl (by omega) (by rw [size_alloc]; omega) ?_)
        intro v' w2 h2 b2
        have hb3 := (hb.alloc hs (.cells #[.int .i64 (bk : Int)] 3)).trans b2
        rw [← HY.out] at h2
        clear hown hb b2 q1 b0
        go_wp2
        exact ⟨⟨k + 1, by go_num, by omega, h2, hb3⟩, by simp [intOf]; omega⟩
      | false =>
        rw [hp] at MK
        rw [← markL_no (p := fun j => (V (A j)).pin) (fun j => (V (A j)).b) (n := k) hp] at hown
        clear hp
        generalize (V (A k)).b = bk at *
        generalize A k = ak at *
        go_wp2_with fail
        refine MK.out.mono ?_; rintro e w' ⟨rfl, rfl⟩
        clear MK
        go_wp2
        exact ⟨⟨k + 1, by go_num, by omega, hown, hb⟩, by simp [intOf]; omega⟩
    · obtain rfl : k = n := by omega
      have hlen := markL_len (fun j => (V (A j)).pin) (fun j => (V (A j)).b) k
      have SO := fun v (h : NatsAt w.heap.size v (markL (fun j => (V (A j)).pin) (fun j => (V (A j)).b) k) wr) => sort_any _ S HS.out w.heap.size v wr hb.size (by omega) h
      have S1 := Lib.hid (SO _ hown)
      have HB := Lib.hid hb
      clear SO hown hb HS HI c0 c6
      go_wp2_with fail
      refine S1.out.mono ?_; rintro e w2 ⟨rfl, h2, b2⟩
      have HF := Lib.hid (And.intro h2 (HB.out.trans b2))
      clear S1 h2 b2 HB
      go_wp2
      go_ret
      exact ⟨_, rfl, HF.out⟩
theorem dirty_any {c d lo hi U : Nat} {M : Nat → Prop} {C : CS} (w : World) (h : CacheAt c d lo hi M U C w) :
    Calls Tryz.prog 12 #[cV c] w fun e w' => ∃ v, e = .returned v ∧ NatsAt w.heap.size v (listB C true false) w' ∧ Below w.heap.size w w' := by
  obtain ⟨m, o, uses, A, V, G, h, hu, rfl⟩ := h
  have MK := Lib.hid (marked_dirty w h)
  clear h
  go_enter Tryz.func12, Tryz.ntmps12
  go_wp2_with fail
  refine MK.out.mono ?_; rintro e w1 ⟨v, rfl, hv, b⟩
  have HV := Lib.hid hv
  clear MK hv
  go_wp2
  go_ret
  exact ⟨v, rfl, HV.out, b⟩
theorem pinned_any {c d lo hi U : Nat} {M : Nat → Prop} {C : CS} (w : World) (h : CacheAt c d lo hi M U C w) :
    Calls Tryz.prog 13 #[cV c] w fun e w' => ∃ v, e = .returned v ∧ NatsAt w.heap.size v (listB C false true) w' ∧ Below w.heap.size w w' := by
  obtain ⟨m, o, uses, A, V, G, h, hu, rfl⟩ := h
  have MK := Lib.hid (marked_pinned w h)
  clear h
  go_enter Tryz.func13, Tryz.ntmps13
  go_wp2_with fail
  refine MK.out.mono ?_; rintro e w1 ⟨v, rfl, hv, b⟩
  have HV := Lib.hid hv
  clear MK hv
  go_wp2
  go_ret
  exact ⟨v, rfl, HV.out, b⟩
end Go.Proofs.YtehjobjjlldckaaGreat
