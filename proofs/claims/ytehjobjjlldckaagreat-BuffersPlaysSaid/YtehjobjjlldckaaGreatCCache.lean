/- The program's cache in memory: what it is in the chapter's words. -/
import Derived.Test.YtehjobjjlldckaaGreatCHeap7
import Derived.Test.YtehjobjjlldckaaGreatCRaw
import Derived.Test.YtehjobjjlldckaaGreatCMath
namespace Go.Proofs.YtehjobjjlldckaaGreat
set_option linter.unusedVariables false
open Go.RowKit

theorem hole_cells (c d m most uses : Nat) : Hole (cellsC c d m most uses) := ⟨fun _ => rfl, fun _ _ => rfl⟩
def bufOf (r : Rec) : Buf := ⟨r.b, r.data, r.dirty, r.pin⟩
def bufs (V : Nat → Rec) (G : List Nat) : List Buf := G.map fun g => bufOf (V g)
def adrOf (V : Nat → Rec) (G : List Nat) (b : Int) : Option Nat := G.find? fun g => ((V g).b : Int) == b
def lessG (V : Nat → Rec) (G : List Nat) (b : Int) : List Nat := G.filter fun g => ((V g).b : Int) != b
theorem atB_bufs (V : Nat → Rec) (G : List Nat) (b : Int) : atB (bufs V G) b = (adrOf V G b).map fun g => bufOf (V g) := by
  unfold atB adrOf bufs; rw [List.find?_map]; rfl
theorem dropB_bufs (V : Nat → Rec) (G : List Nat) (b : Int) : dropB (bufs V G) b = bufs V (lessG V G b) := by
  unfold dropB bufs lessG; rw [List.filter_map]; rfl
theorem adr_some {V : Nat → Rec} {G : List Nat} {b : Int} {g : Nat} (h : adrOf V G b = some g) : g ∈ G ∧ ((V g).b : Int) = b :=
  ⟨List.mem_of_find?_eq_some h, by have := List.find?_some h; exact beq_iff_eq.1 this⟩
theorem adr_none {V : Nat → Rec} {G : List Nat} {b : Int} (h : adrOf V G b = none) : ∀ g ∈ G, ((V g).b : Int) ≠ b := fun g hg e => by
  have := List.find?_eq_none.1 h g hg
  exact this (beq_iff_eq.2 e)
theorem adr_congr {V V' : Nat → Rec} {G : List Nat} (h : ∀ g ∈ G, (V g).b = (V' g).b) (b : Int) : adrOf V G b = adrOf V' G b := by
  induction G with
  | nil => rfl
  | cons a G ih =>
    have ih := ih fun g hg => h g (List.mem_cons_of_mem _ hg)
    unfold adrOf at ih ⊢
    rw [List.find?_cons, List.find?_cons, h a (List.mem_cons_self ..), ih]
theorem bufs_congr {V V' : Nat → Rec} {G : List Nat} (h : ∀ g ∈ G, bufOf (V g) = bufOf (V' g)) : bufs V G = bufs V' G := List.map_congr_left h
theorem less_mem {V : Nat → Rec} {G : List Nat} {b : Int} {x : Nat} : x ∈ lessG V G b ↔ x ∈ G ∧ ((V x).b : Int) ≠ b := by
  unfold lessG; rw [List.mem_filter, bne_iff_ne]
theorem bufs_length (V : Nat → Rec) (G : List Nat) : (bufs V G).length = G.length := by simp [bufs]
/-- unlike buffers have unlike blocks -/
theorem b_inj {V : Nat → Rec} {G : List Nat} (h : unlike (bufs V G)) {x y : Nat} (hx : x ∈ G) (hy : y ∈ G) (e : (V x).b = (V y).b) : x = y := by
  unfold unlike bufs at h
  rw [List.map_map] at h
  induction G with
  | nil => cases hx
  | cons a G ih =>
    rw [List.map_cons, List.nodup_cons] at h
    rcases List.mem_cons.1 hx with rfl | hx2 <;> rcases List.mem_cons.1 hy with rfl | hy2
    · rfl
    · exact absurd (by show (V x).b ∈ _; rw [e]; exact List.mem_map_of_mem (f := (fun g => (bufOf (V g)).b)) hy2) h.1
    · exact absurd (by show (V y).b ∈ _; rw [← e]; exact List.mem_map_of_mem (f := (fun g => (bufOf (V g)).b)) hx2) h.1
    · exact ih h.2 hx2 hy2
theorem adr_mem {V : Nat → Rec} {G : List Nat} (h : unlike (bufs V G)) {g : Nat} (hg : g ∈ G) : adrOf V G (V g).b = some g := by
  cases e : adrOf V G (V g).b with
  | none => exact absurd rfl (adr_none e g hg)
  | some x =>
    obtain ⟨h1, h2⟩ := adr_some e
    rw [b_inj h h1 hg (by omega)]
/-- whose memory lies where -/
structure Parts (c lo hi m : Nat) (o : Option Nat) (G : List Nat) : Prop where
  mc : m ≠ c
  om : o ≠ some m
  gm : ∀ g, g ∈ G → g ≠ m
  zc : ¬ (lo ≤ c ∧ c < hi)
  zm : ¬ (lo ≤ m ∧ m < hi)
  zo : ∀ k, o = some k → ¬ (lo ≤ k ∧ k < hi)
  zg : ∀ g, g ∈ G → ¬ (lo ≤ g ∧ g < hi)
theorem Parts.sub {c lo hi m : Nat} {o : Option Nat} {G G' : List Nat} (h : Parts c lo hi m o G) (hs : ∀ g, g ∈ G' → g ∈ G) : Parts c lo hi m o G' :=
  ⟨h.mc, h.om, fun g hg => h.gm g (hs g hg), h.zc, h.zm, h.zo, fun g hg => h.zg g (hs g hg)⟩
def MSet (c m : Nat) (o : Option Nat) (G : List Nat) : Nat → Prop := fun k => k = c ∨ k = m ∨ o = some k ∨ k ∈ G
def Own (lo hi : Nat) (M : Nat → Prop) : Nat → Prop := fun k => M k ∨ (lo ≤ k ∧ k < hi)
/-- the cache c of the device d -/
structure Cache (c d lo hi m : Nat) (o : Option Nat) (uses : Nat) (A : Nat → Nat) (V : Nat → Rec) (G : List Nat) (C : CS) (w : World) : Prop where
  ok : C.ok
  dev : DevAt d lo hi C.st w
  q : QQ c (cellsC c d m C.most uses) o G.length A V w
  heap : heapTo (kV V) A G.length
  mp : MapAt m G.length (adrOf V G) w
  list : C.L = bufs V G
  mem : ∀ x, (∃ i, i < G.length ∧ A i = x) ↔ x ∈ G
  rise : G.Pairwise fun a b => (V a).used < (V b).used
  most : ∀ g, g ∈ G → (V g).used ≤ uses
  parts : Parts c lo hi m o G
/-- a cache of which one buffer, g, is being changed: C tells of the others -/
structure Hand (c d lo hi m gq cap uses : Nat) (A : Nat → Nat) (V0 V : Nat → Rec) (G : List Nat) (g : Nat) (C : CS) (w : World) : Prop where
  ok : C.ok
  dev : DevAt d lo hi C.st w
  q : QAt c (cellsC c d m C.most uses) gq cap (G.length + 1) A V w
  heap : heapTo (kV V0) A (G.length + 1)
  oth : ∀ i, i < G.length + 1 → A i ≠ g → kV V0 (A i) = kV V (A i)
  mp : MapAt m (G.length + 1) (updO (adrOf V G) (V g).b (some g)) w
  list : C.L = bufs V G
  mem : ∀ x, (∃ i, i < G.length + 1 ∧ A i = x) ↔ (x ∈ G ∨ x = g)
  gG : g ∉ G
  rise : G.Pairwise fun a b => (V a).used < (V b).used
  most : ∀ x, x ∈ G → (V x).used ≤ uses
  new : ∀ x, x ∈ G → (V x).b ≠ (V g).b
  room : G.length < C.most
  blt : (V g).b < C.st.n
  parts : Parts c lo hi m (some gq) (g :: G)
section
variable {c d lo hi m gq cap uses : Nat} {o : Option Nat} {A : Nat → Nat} {V0 V : Nat → Rec} {G : List Nat} {g : Nat} {C : CS} {w w' : World}
theorem QQ.blk {K : Value → Array Value} {n : Nat} (h : QQ c K o n A V w) : ∃ q, Blk c (K q) 68 w := by
  cases o with
  | none => exact ⟨_, h.2.1⟩
  | some gq => obtain ⟨cap, h⟩ := h; exact ⟨_, h.blk⟩
theorem QQ.turn {K : Value → Array Value} {n : Nat} {M : Nat → Prop} (h : QQ c K o n A V w) (t : Turn M w w') (h1 : ¬ M c) (h2 : ∀ k, o = some k → ¬ M k) (h3 : ∀ i, i < n → ¬ M (A i)) : QQ c K o n A V w' := by
  cases o with
  | none => exact ⟨h.1, h.2.1.turn t h1, h.2.2⟩
  | some gq => obtain ⟨cap, h⟩ := h; exact ⟨cap, h.turn t h1 (h2 gq rfl) h3⟩
theorem QAt.congrV {K : Value → Array Value} {n : Nat} {V' : Nat → Rec} (h : QAt c K gq cap n A V w) (e : ∀ i, i < n → V (A i) = V' (A i)) : QAt c K gq cap n A V' w :=
  ⟨h.blk, h.hole, h.row, h.le, h.hi, h.small, fun i hi => by rw [← e i hi]; exact h.item i hi, h.inj, h.cq, h.ca, fun i hi => by rw [← e i hi]; exact h.used i hi⟩
theorem QQ.congrV {K : Value → Array Value} {n : Nat} {V' : Nat → Rec} (h : QQ c K o n A V w) (e : ∀ i, i < n → V (A i) = V' (A i)) : QQ c K o n A V' w := by
  cases o with
  | none => exact h
  | some gq => obtain ⟨cap, h⟩ := h; exact ⟨cap, h.congrV e⟩
/-- item i has other cells -/
theorem QAt.record {K : Value → Array Value} {n i : Nat} {r : Rec} (h : QAt c K gq cap n A V w) (hi : i < n) (hb : Blk (A i) (recCells r i) 91 w') (t : Turn (fun k => k = A i) w w') (hu : r.used < 2305843009213693952) : QAt c K gq cap n A (upd V (A i) r) w' := by
  have hc := h.ca i hi
  obtain ⟨cur, bq, s, e⟩ := h.row
  refine ⟨h.blk.turn t (Ne.symm hc.1), h.hole, ⟨cur, bq.turn t (Ne.symm hc.2), s, e⟩, h.le, h.hi, h.small, fun k hk => ?_, h.inj, h.cq, h.ca, fun k hk => ?_⟩
  · by_cases ek : k = i
    · subst ek; rw [upd_same]; exact hb
    · have hne : A k ≠ A i := fun e2 => ek (h.inj k i hk hi e2)
      rw [upd_other _ hne]
      exact (h.item k hk).turn t hne
  · by_cases ek : A k = A i
    · rw [ek, upd_same]; exact hu
    · rw [upd_other _ ek]; exact h.used k hk
/-- the cache's own cell 7 -/
theorem QAt.tick {most n u : Nat} (h : QAt c (cellsC c d m most uses) gq cap n A V w) : QAt c (cellsC c d m most u) gq cap n A V (w.setCell ⟨c, 7, none⟩ (.int .i64 (u : Int))) := by
  have t : Turn (fun k => k = c) w (w.setCell ⟨c, 7, none⟩ (.int .i64 (u : Int))) := (Turn.refl (fun k => k = c) w).set (p := ⟨c, 7, none⟩) rfl _
  obtain ⟨cur, bq, s, e⟩ := h.row
  exact ⟨h.blk.set 7 _, hole_cells _ _ _ _ _, ⟨cur, bq.turn t (Ne.symm h.cq), s, e⟩, h.le, h.hi, h.small, fun k hk => (h.item k hk).turn t (h.ca k hk).1, h.inj, h.cq, h.ca, h.used⟩
theorem dev_turn {S : St} {M : Nat → Prop} (h : DevAt d lo hi S w) (t : Turn M w w') (hM : ∀ k, M k → ¬ (lo ≤ k ∧ k < hi)) : DevAt d lo hi S w' := by
  obtain ⟨gn, gk, gp, cn, ck, l, h⟩ := h
  have hn : ∀ k, (lo ≤ k ∧ k < hi) → ¬ M k := fun k hk hm => hM k hm hk
  exact ⟨gn, gk, gp, cn, ck, l, h.ok, h.blk.turn t (hn _ h.zd), h.now.turn t (hn _ h.zn), h.was.turn t (hn _ h.zk), h.pend.turn t (hn _ h.zp), h.left, h.i64, h.cn, h.ck, h.zd, h.zn, h.zk, h.zp, Nat.le_trans h.top t.size, h.a1, h.a2, h.a3, h.a4, h.a5, h.a6⟩
/-- other memory may turn -/
theorem Cache.turn {M : Nat → Prop} (h : Cache c d lo hi m o uses A V G C w) (t : Turn M w w') (h1 : ∀ k, M k → ¬ MSet c m o G k) (h2 : ∀ k, M k → ¬ (lo ≤ k ∧ k < hi)) : Cache c d lo hi m o uses A V G C w' :=
  ⟨h.ok, dev_turn h.dev t h2, h.q.turn t (fun hm => h1 _ hm (.inl rfl)) (fun k e hm => h1 _ hm (.inr (.inr (.inl e)))) (fun i hi hm => h1 _ hm (.inr (.inr (.inr ((h.mem _).1 ⟨i, hi, rfl⟩))))), h.heap, h.mp.turn t (fun hm => h1 _ hm (.inr (.inl rfl))), h.list, h.mem, h.rise, h.most, h.parts⟩
theorem Cache.kept1 (h : Cache c d lo hi m o uses A V G C w) (b : Below w.heap.size w w') : Cache c d lo hi m o uses A V G C w' :=
  h.turn (Turn.of_below b fun _ => False) (fun _ h => h.elim) fun _ h => h.elim
/-- the device is another one -/
theorem Cache.on (h : Cache c d lo hi m o uses A V G C w) {S : St} (hd : DevAt d lo hi S w') (z : Zone lo hi w w') (hn : S.n = C.st.n) : Cache c d lo hi m o uses A V G (C.on S) w' := by
  have t : Turn (fun k => lo ≤ k ∧ k < hi) w w' := Turn.of_zone z fun k h1 h2 => ⟨h1, h2⟩
  exact ⟨on_ok h.ok hd.ok hn, hd, h.q.turn t h.parts.zc h.parts.zo (fun i hi hm => h.parts.zg _ ((h.mem _).1 ⟨i, hi, rfl⟩) hm), h.heap, h.mp.turn t h.parts.zm, h.list, h.mem, h.rise, h.most, h.parts⟩
theorem Cache.blk (h : Cache c d lo hi m o uses A V G C w) : ∃ q, Blk c (cellsC c d m C.most uses q) 68 w := h.q.blk
theorem Cache.len (h : Cache c d lo hi m o uses A V G C w) : C.L.length = G.length := by rw [h.list, bufs_length]
theorem Cache.at (h : Cache c d lo hi m o uses A V G C w) (b : Int) : atB C.L b = (adrOf V G b).map fun g => bufOf (V g) := by rw [h.list, atB_bufs]
theorem Cache.queue (h : Cache c d lo hi m o uses A V G C w) (hg : g ∈ G) : ∃ gq cap, o = some gq ∧ QAt c (cellsC c d m C.most uses) gq cap G.length A V w := by
  cases o with
  | none =>
    have h0 := h.q.1
    have := List.eq_nil_of_length_eq_zero h0
    rw [this] at hg
    cases hg
  | some gq =>
    obtain ⟨cap, hq⟩ := h.q
    exact ⟨gq, cap, rfl, hq⟩
theorem Cache.un (h : Cache c d lo hi m o uses A V G C w) : unlike (bufs V G) := by rw [← h.list]; exact h.ok.un
/-- the buffer of g is taken in hand -/
theorem Cache.hand (h : Cache c d lo hi m o uses A V G C w) {b : Int} (hb : adrOf V G b = some g) :
    ∃ gq cap, o = some gq ∧ Hand c d lo hi m gq cap uses A V V (lessG V G b) g { C with L := dropB C.L b } w ∧ ((V g).b : Int) = b ∧ (lessG V G b).length + 1 = G.length ∧ atB C.L b = some (bufOf (V g)) := by
  obtain ⟨hg, hgb⟩ := adr_some hb
  obtain ⟨gq, cap, rfl, hq⟩ := h.queue hg
  have hx : atB C.L b = some (bufOf (V g)) := by rw [h.at, hb]; rfl
  have hlen : (lessG V G b).length + 1 = G.length := by
    obtain ⟨h1, h2⟩ := atB_some hx
    have := dropB_length h.ok.un h1
    rw [h2, h.list, dropB_bufs, bufs_length, bufs_length] at this
    exact this
  have hl := h.ok.len
  rw [h.len] at hl
  have hgG : g ∉ lessG V G b := fun hm => (less_mem.1 hm).2 hgb
  refine ⟨gq, cap, rfl, ⟨drop_ok h.ok b, h.dev, by rw [hlen]; exact hq, by rw [hlen]; exact h.heap, fun _ _ _ => rfl, ?_, ?_, fun x => ?_, hgG, List.Pairwise.sublist List.filter_sublist h.rise, fun x hx => h.most x (less_mem.1 hx).1, fun x hx e => ?_, by show _ < C.most; omega, ?_, ?_⟩, hgb, hlen, hx⟩
  · rw [hlen]
    refine h.mp.congr fun k hk => ?_
    rw [hgb]
    by_cases e : k = b
    · subst e; rw [updO_same]; exact hb
    · rw [updO_other _ _ e]
      unfold adrOf lessG
      rw [List.find?_filter]
      congr 1
      funext y
      by_cases e2 : ((V y).b : Int) = k
      · rw [e2]
        have : (k != b) = true := by rw [bne_iff_ne]; exact e
        rw [this]; simp
      · rw [beq_eq_false_iff_ne.2 e2]; simp
  · show dropB C.L b = _
    rw [h.list, dropB_bufs]
  · rw [hlen, h.mem x]
    constructor
    · intro hx2
      by_cases e : ((V x).b : Int) = b
      · exact .inr (b_inj h.un hx2 hg (by omega))
      · exact .inl (less_mem.2 ⟨hx2, e⟩)
    · rintro (hx2 | rfl)
      · exact (less_mem.1 hx2).1
      · exact hg
  · exact (less_mem.1 hx).2 (by omega)
  · have := h.ok.blk (bufOf (V g)) (by rw [h.list]; exact List.mem_map_of_mem (f := (fun g => bufOf (V g))) hg)
    exact this
  · refine h.parts.sub fun x hx => ?_
    rcases List.mem_cons.1 hx with rfl | hx
    · exact hg
    · exact (less_mem.1 hx).1
/-- .. its place -/
theorem Hand.place (h : Hand c d lo hi m gq cap uses A V0 V G g C w) : ∃ i, i < G.length + 1 ∧ A i = g := (h.mem g).2 (.inr rfl)
/-- .. is another one, of the same block -/
theorem Hand.record (h : Hand c d lo hi m gq cap uses A V0 V G g C w) {r : Rec} {i : Nat} (hin : i < G.length + 1) (hA : A i = g) (hb : Blk g (recCells r i) 91 w') (t : Turn (fun k => k = g) w w') (hr : r.b = (V g).b) (hu : r.used < 2305843009213693952) :
    Hand c d lo hi m gq cap uses A V0 (upd V g r) G g C w' := by
  have hne : ∀ x, x ∈ G → upd V g r x = V x := fun x hx => upd_other _ (fun (e : x = g) => h.gG (e ▸ hx)) _
  have hq := h.q
  subst hA
  refine ⟨h.ok, dev_turn h.dev t (fun k hk => by subst hk; exact h.parts.zg _ (List.mem_cons_self ..)), hq.record hin hb t hu, h.heap, fun k hk hn => ?_, ?_, ?_, h.mem, h.gG, ?_, fun x hx => ?_, fun x hx => ?_, h.room, ?_, h.parts⟩
  · rw [h.oth k hk hn]; unfold kV; rw [upd_other _ hn]
  · rw [upd_same, hr, show adrOf (upd V (A i) r) G = adrOf V G from funext fun b => adr_congr (fun x hx => by rw [hne x hx]) b]
    exact h.mp.turn t fun e => h.parts.gm _ (List.mem_cons_self ..) e.symm
  · rw [h.list]; exact bufs_congr fun x hx => by rw [hne x hx]
  · refine List.Pairwise.imp_of_mem ?_ h.rise
    intro a b ha hb hab
    rw [hne a ha, hne b hb]; exact hab
  · rw [hne x hx]; exact h.most x hx
  · rw [hne x hx, upd_same, hr]; exact h.new x hx
  · rw [upd_same, hr]; exact h.blt
end
end Go.Proofs.YtehjobjjlldckaaGreat
