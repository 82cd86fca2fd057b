import Derived.Test.YtknefoemgifbfaaGreatPd52
import Derived.Test.YtknefoemgifbfaaGreatPd53
import Derived.Deep.CutBlock
import Derived.Deep.DeepCutAuto
set_option linter.unusedVariables false
set_option linter.unusedSimpArgs false
set_option linter.constructorNameAsVariable false
set_option maxRecDepth 100000
set_option maxHeartbeats 16000000
namespace Go.Proofs.YtknefoemgifbfaaGreat
open Go.RowKit
def walkA (rd : Rd) : Nat → List Ent → List Int × List Ent → Except Int (List Int × List Ent)
 | 0, _, st => .ok st
 | h + 1, l, st => l.foldlM (fun st x => match nodeA rd x (h == 0) st.1 with
   | .error e => .error e
   | .ok (m, _) => if h = 0 then .ok (st.1 ++ [x.phys], st.2 ++ m) else walkA rd h m (st.1 ++ [x.phys], st.2)) st
abbrev walkF (rd : Rd) (h : Nat) : List Int × List Ent → Ent → Except Int (List Int × List Ent) := fun st x => match nodeA rd x (h == 0) st.1 with
 | .error e => .error e
 | .ok (m, _) => if h = 0 then .ok (st.1 ++ [x.phys], st.2 ++ m) else walkA rd h m (st.1 ++ [x.phys], st.2)
def InvW (n : List Int) (r : List Ent) : Prop := SeenOk n ∧ r.length ≤ 10 * n.length ∧ fitE r
def WEnd (cb B R g : Nat) (bad : Int) (a : Except Int (List Int × List Ent)) (w : World) (e : Ending) (w' : World) : Prop :=
 KeepE B w w' ∧ match a with
 | .ok (n, r) => e = .returned (.int .i64 0) ∧ (∃ vn vr, WkAt cb B R g bad vn vr n r w') ∧ InvW n r
 | .error c => e = .returned (.int .i64 c) ∧ c ≠ 0
def Walks (cb B R g : Nat) (F : Nat → ByteArray) (bad : Int) (h : Nat) : Prop :=
 ∀ (l : List Ent) (lv : Value) (n : List Int) (r : List Ent) (vn vr : Value) (w : World), B ≤ w.heap.size → DskAt g F w → WkAt cb B R g bad vn vr n r w → EntsK B lv l w → InvW n r →
  (fitE l ∧ ∀ x ∈ l, 0 ≤ x.phys ∧ x.phys < 4096) →
  Calls Tryz.prog 52 #[.pointer (some ⟨R, 0, none⟩), lv, .int .i64 (h : Int)] w (WEnd cb B R g bad (walkA (rdOf F bad) h l (n, r)) w)
open Go.RowKit
open Go.RowKit
def startA (rd : Rd) (depth : Int) (root : List Ent) : Except Int (List Int × List Ent) := if depth = 0 then .ok ([], root) else walkA rd depth.toNat root ([], [])
def docA (rd : Rd) (depth : Int) (root : List Ent) : Except Int (List Ent × List Int) :=
 if RootedA depth root then
  match startA rd depth root with
  | .error c => .error c
  | .ok (n, r) => if RowOk true r ∧ hitA r n = false then .ok (r, riseTo n 4096) else .error 80
 else .error 80
open Go.RowKit Go.Shelf
theorem nums_push0 (S : Shp) (m : List Ent) : numsA (pushA S 0 m) = numsA S := by
 have h : ∀ k, numsTo (pushA S 0 m) k = numsTo S k := fun k => by
  induction k with
  | zero => rfl
  | succ k ih => rw [numsTo_succ, numsTo_succ, ih]; unfold headsA; rw [rowA_push_ne S (by omega)]
 rw [← numsTo_all, ← numsTo_all, pushA_len]; exact h _
theorem nums_push (S : Shp) (r : Nat) (hr : r + 1 < S.length) (m : List Ent) : (numsA (pushA S (r + 1) m)).Perm (numsA S ++ m.map Ent.phys) := by
 have h : ∀ k, (numsTo (pushA S (r + 1) m) k).Perm (numsTo S k ++ if r < k then m.map Ent.phys else []) := fun k => by
  induction k with
  | zero => simp [numsTo]
  | succ k ih =>
    rw [numsTo_succ, numsTo_succ];by_cases e : k = r
    ·subst e
     have e1 : headsA (pushA S (k + 1) m) k = headsA S k ++ m := by unfold headsA; rw [rowA_push hr, List.flatten_append]; simp
     rw [e1, List.map_append, if_pos (Nat.lt_succ_self k)];rw [if_neg (Nat.lt_irrefl k), List.append_nil] at ih;rw [← List.append_assoc];exact (ih.append_right _).append_right _
    ·have e1 : headsA (pushA S (r + 1) m) k = headsA S k := by unfold headsA; rw [rowA_push_ne S (by omega)]
     rw [e1];by_cases q : r < k
     ·rw [if_pos q] at ih
      rw [if_pos (by omega)];refine (ih.append_right _).trans ?_;rw [List.append_assoc, List.append_assoc];exact List.Perm.append_left _ List.perm_append_comm
     ·rw [if_neg q, List.append_nil] at ih
      rw [if_neg (by omega), List.append_nil];exact ih.append_right _
 rw [← numsTo_all, ← numsTo_all, pushA_len];have := h S.length;rwa [if_pos (by omega)] at this
structure Side (D : Nat) (p : List Int) (S : Shp) (seen n : List Int) (row : List Ent) : Prop where
 len : S.length = D
 list : listA S = row
 seen : ∀ b, b ∈ seen ↔ b ∈ n
 nums : (numsA S).Perm (n ++ p)
def Sides (D : Nat) (p : List Int) : Except Int (Shp × List Int) → Except Int (List Int × List Ent) → Prop
 | .error a, .error b => a = b
 | .ok (S, seen), .ok (n, row) => Side D p S seen n row
 | _, _ => False
open Go.RowKit Go.Shelf
theorem nums_repl (D : Nat) : numsA (List.replicate D ([] : List (List Ent))) = [] := by
 have h : ∀ k, numsTo (List.replicate D ([] : List (List Ent))) k = [] := fun k => by
  induction k with
  | zero => rfl
  | succ k ih => rw [numsTo_succ, ih]; unfold headsA; rw [rowA_repl]; rfl
 rw [← numsTo_all]; exact h _
def saysA (a : Except Int Shp) : Except Int (List Ent × List Int) := match a with
 | .error c => .error c
 | .ok S => .ok (listA S, sortI (numsA S))
open Go.RowKit
def ndA (rd : Rd) (x : Ent) : List Ent := match decN (rd x.phys).1 with | some q => q.1 | none => []
def OkE (rd : Rd) (leaf : Bool) (x : Ent) : Prop := (rd x.phys).2 = 0 ∧ decN (rd x.phys).1 = some (ndA rd x, leaf) ∧ (eat (ndA rd x) 0).log = x.log
def below (rd : Rd) : Nat → List (List Ent) → List (List Ent)
 | 0, ns => ns
 | k + 1, ns => below rd k (ns.flatten.map (ndA rd))
theorem below_succ (rd : Rd) (k : Nat) (ns : List (List Ent)) : below rd (k + 1) ns = below rd k (ns.flatten.map (ndA rd)) := rfl
theorem below_last (rd : Rd) : ∀ (k : Nat) (ns : List (List Ent)), below rd (k + 1) ns = (below rd k ns).flatten.map (ndA rd)
 | 0, ns => rfl
 | k + 1, ns => by rw [below_succ, below_last rd k, ← below_succ]
theorem below_append (rd : Rd) : ∀ (k : Nat) (a b : List (List Ent)), below rd k (a ++ b) = below rd k a ++ below rd k b
 | 0, a, b => rfl
 | k + 1, a, b => by rw [below_succ, List.flatten_append, List.map_append, below_append rd k]; rfl
theorem below_nil (rd : Rd) : ∀ (k : Nat), below rd k [] = []
 | 0 => rfl
 | k + 1 => below_nil rd k
def okAll (rd : Rd) : Nat → List Ent → Prop
 | 0, _ => True
 | r + 1, l => ∀ x ∈ l, OkE rd (r == 0) x ∧ okAll rd r (ndA rd x)
theorem okAll_of (rd : Rd) : ∀ (r : Nat) (ns : List (List Ent)), (∀ k, k < r → ∀ x ∈ (below rd (r - 1 - k) ns).flatten, OkE rd (k == 0) x) → ∀ l ∈ ns, okAll rd r l
 | 0, ns, h, l, hl => trivial
 | r + 1, ns, h, l, hl => by
   intro x hx;have hxf : x ∈ ns.flatten := List.mem_flatten.2 ⟨l, hl, hx⟩;refine ⟨?_, okAll_of rd r (ns.flatten.map (ndA rd)) (fun k hk y hy => ?_) _ (List.mem_map.2 ⟨x, hxf, rfl⟩)⟩
   ·have := h r (Nat.lt_succ_self r) x
    rw [show r + 1 - 1 - r = 0 by omega] at this;exact this hxf
   ·refine h k (by omega) y ?_
    rw [show r + 1 - 1 - k = (r - 1 - k) + 1 by omega, below_succ]; exact hy
theorem okAll_to (rd : Rd) : ∀ (r : Nat) (ns : List (List Ent)), (∀ l ∈ ns, okAll rd r l) → ∀ k, k < r → ∀ x ∈ (below rd (r - 1 - k) ns).flatten, OkE rd (k == 0) x
 | 0, ns, h, k, hk, x, hx => absurd hk (Nat.not_lt_zero k)
 | r + 1, ns, h, k, hk, x, hx => by
   by_cases e : k = r
   ·subst e
    rw [show k + 1 - 1 - k = 0 by omega] at hx;obtain ⟨l, hl, hx⟩ := List.mem_flatten.1 hx;exact (h l hl x hx).1
   ·rw [show r + 1 - 1 - k = (r - 1 - k) + 1 by omega, below_succ] at hx
    refine okAll_to rd r (ns.flatten.map (ndA rd)) (fun m hm => ?_) k (by omega) x hx;obtain ⟨y, hy, rfl⟩ := List.mem_map.1 hm;obtain ⟨l, hl, hy⟩ := List.mem_flatten.1 hy;exact (h l hl y hy).2
def rowsB (rd : Rd) (r : Nat) (ns : List (List Ent)) (k : Nat) : List (List Ent) := if k ≤ r then below rd (r - k) ns else []
theorem rowsB_cons (rd : Rd) (r : Nat) (a : List Ent) (ns : List (List Ent)) (k : Nat) : rowsB rd r (a :: ns) k = rowsB rd r [a] k ++ rowsB rd r ns k := by
 unfold rowsB;by_cases h : k ≤ r
 ·rw [if_pos h, if_pos h, if_pos h, ← below_append]; rfl
 ·rw [if_neg h, if_neg h, if_neg h]; rfl
theorem rowsB_nil (rd : Rd) (r k : Nat) : rowsB rd r [] k = [] := by
 unfold rowsB; split
 ·exact below_nil rd _
 ·rfl
theorem rowsB_up (rd : Rd) (r : Nat) (l : List Ent) (k : Nat) : rowsB rd (r + 1) [l] k = if k = r + 1 then [l] else rowsB rd r (l.map (ndA rd)) k := by
 unfold rowsB;by_cases e : k = r + 1
 ·subst e; rw [if_pos (Nat.le_refl _), if_pos rfl, Nat.sub_self]; rfl
 ·rw [if_neg e]
  by_cases h : k ≤ r
  ·rw [if_pos h, if_pos (by omega), show r + 1 - k = (r - k) + 1 by omega, below_succ, List.flatten_singleton]
  ·rw [if_neg h, if_neg (by omega)]
theorem push_rows {S : Shp} {r : Nat} (hr : r < S.length) (l : List Ent) (k : Nat) : rowA (pushA S r l) k = rowA S k ++ (if k = r then [l] else []) := by
 by_cases e : k = r
 ·subst e; rw [if_pos rfl, rowA_push hr]
 ·rw [if_neg e, List.append_nil, rowA_push_ne S e]
theorem nodeA_nd {rd : Rd} {x : Ent} {leaf : Bool} {seen : List Int} {m : List Ent} {s2 : List Int} (h : nodeA rd x leaf seen = .ok (m, s2)) : m = ndA rd x ∧ s2 = x.phys :: seen ∧ OkE rd leaf x := by
 obtain ⟨-, h2, -, h4, h5, h6⟩ := nodeA_some h
 have e : ndA rd x = m := by unfold ndA; rw [h5]
 exact ⟨e.symm, h2, h4, by rw [e]; exact h5, by rw [e]; exact h6⟩
theorem take_stood (rd : Rd) : ∀ (r : Nat) (l : List Ent) (S : Shp) (seen : List Int) (S' : Shp) (seen' : List Int), r < S.length → takeA rd r l (S, seen) = .ok (S', seen') →
 S'.length = S.length ∧ okAll rd r l ∧ ∀ k, rowA S' k = rowA S k ++ rowsB rd r [l] k
 | 0, l, S, seen, S', seen', hr, h => by
   unfold takeA at h
   injection h with h
   injection h with e1 e2
   subst e1 e2;refine ⟨pushA_len _ _ _, trivial, fun k => ?_⟩;rw [push_rows hr];unfold rowsB;by_cases e : k = 0
   ·subst e; rfl
   ·rw [if_neg e, if_neg (by omega)]
 | r + 1, l, S, seen, S', seen', hr, h => by
   rw [takeA_succ] at h
   have key : ∀ (q : List Ent) (Sc : Shp) (sc : List Int), Sc.length = S.length → q.foldlM (takeF rd r) (Sc, sc) = (.ok (S', seen') : Except Int _) →
    S'.length = S.length ∧ (∀ x ∈ q, OkE rd (r == 0) x ∧ okAll rd r (ndA rd x)) ∧ ∀ k, rowA S' k = rowA Sc k ++ rowsB rd r (q.map (ndA rd)) k := fun q => by
    induction q with
    | nil =>
      intro Sc sc hl he;rw [List.foldlM_nil] at he
      injection he with he
      injection he with e1 e2
      subst e1 e2;exact ⟨hl, (fun x hx => by cases hx), fun k => by rw [List.map_nil, rowsB_nil, List.append_nil]⟩
    | cons x q ih =>
      intro Sc sc hl he;rw [List.foldlM_cons] at he
      cases hn : nodeA rd x (r == 0) sc with
      | error e =>
        have f1 : takeF rd r (Sc, sc) x = .error e := by show (match nodeA rd x (r == 0) sc with | .error e => Except.error e | .ok (m, seen) => takeA rd r m (Sc, seen)) = _; rw [hn]
        rw [f1] at he; cases he
      | ok y =>
        obtain ⟨m, s2⟩ := y
        have f1 : takeF rd r (Sc, sc) x = takeA rd r m (Sc, s2) := by show (match nodeA rd x (r == 0) sc with | .error e => Except.error e | .ok (m, seen) => takeA rd r m (Sc, seen)) = _; rw [hn]
        rw [f1] at he;obtain ⟨rfl, rfl, n3⟩ := nodeA_nd hn
        cases ht : takeA rd r (ndA rd x) (Sc, x.phys :: sc) with
        | error e => rw [ht] at he; cases he
        | ok z =>
          obtain ⟨S3, s3⟩ := z;rw [ht] at he;obtain ⟨i1, i2, i3⟩ := take_stood rd r _ Sc _ S3 s3 (by omega) ht;obtain ⟨j1, j2, j3⟩ := ih S3 s3 (by omega) he;refine ⟨j1, fun y hy => ?_, fun k => ?_⟩
          ·rcases List.mem_cons.1 hy with rfl | hy
           ·exact ⟨n3, i2⟩
           ·exact j2 y hy
          ·rw [j3, i3, List.map_cons, rowsB_cons rd r (ndA rd x) (q.map (ndA rd)), List.append_assoc]
   obtain ⟨k1, k2, k3⟩ := key l (pushA S (r + 1) l) seen (pushA_len _ _ _) h;refine ⟨k1, k2, fun k => ?_⟩;rw [k3, push_rows hr, List.append_assoc, rowsB_up];by_cases e : k = r + 1
   ·subst e
    have : rowsB rd r (l.map (ndA rd)) (r + 1) = [] := by unfold rowsB; rw [if_neg (by omega)]
    rw [if_pos rfl, if_pos rfl, this, List.append_nil]
   ·rw [if_neg e, if_neg e, List.nil_append]
theorem flatMap_subl {α β : Type} {f g : α → List β} : ∀ (l : List α), (∀ x ∈ l, (f x).Sublist (g x)) → (l.flatMap f).Sublist (l.flatMap g)
 | [], h => List.Sublist.refl _
 | x :: l, h => by
   rw [List.flatMap_cons, List.flatMap_cons];exact (h x (List.mem_cons_self ..)).append (flatMap_subl l fun y hy => h y (List.mem_cons_of_mem _ hy))
theorem nums_pre {S T : Shp} (hl : S.length = T.length) {Z : Nat → List (List Ent)} (h : ∀ k, rowA T k = rowA S k ++ Z k) : (numsA S).Sublist (numsA T) := by
 unfold numsA;rw [hl];refine flatMap_subl _ fun k _ => List.Sublist.map _ ?_;unfold headsA;rw [h, List.flatten_append];exact List.sublist_append_left _ _
theorem take_again (rd : Rd) (T : Shp) (hnd : (numsA T).Nodup) : ∀ (r : Nat) (l : List Ent) (S : Shp) (seen p : List Int) (Z : Nat → List (List Ent)), S.length = T.length → r < T.length → okAll rd r l →
 (∀ k, rowA T k = rowA S k ++ (rowsB rd r [l] k ++ Z k)) → (numsA S).Perm (seen ++ p) →
 ∃ S' seen', takeA rd r l (S, seen) = .ok (S', seen') ∧ S'.length = S.length ∧ (∀ k, rowA S' k = rowA S k ++ rowsB rd r [l] k) ∧ (numsA S').Perm (seen' ++ p)
 | 0, l, S, seen, p, Z, hl, hr, ho, hT, hp => by
   refine ⟨pushA S 0 l, seen, rfl, pushA_len _ _ _, fun k => ?_, by rw [nums_push0]; exact hp⟩;rw [push_rows (by omega)];unfold rowsB;by_cases e : k = 0
   ·subst e; rfl
   ·rw [if_neg e, if_neg (by omega)]
 | r + 1, l, S, seen, p, Z, hl, hr, ho, hT, hp => by
   rw [takeA_succ]
   have key : ∀ (q : List Ent) (Sc : Shp) (sc : List Int), Sc.length = T.length → (∀ x ∈ q, OkE rd (r == 0) x ∧ okAll rd r (ndA rd x)) → (∀ k, rowA T k = rowA Sc k ++ (rowsB rd r (q.map (ndA rd)) k ++ Z k)) → (numsA Sc).Perm (sc ++ (q.map Ent.phys ++ p)) →
    ∃ S' seen', q.foldlM (takeF rd r) (Sc, sc) = (.ok (S', seen') : Except Int _) ∧ S'.length = Sc.length ∧ (∀ k, rowA S' k = rowA Sc k ++ rowsB rd r (q.map (ndA rd)) k) ∧ (numsA S').Perm (seen' ++ p) := fun q => by
    induction q with
    | nil =>
      intro Sc sc hlc ho hT hp;exact ⟨Sc, sc, rfl, rfl, fun k => by rw [List.map_nil, rowsB_nil, List.append_nil], hp⟩
    | cons x q ih =>
      intro Sc sc hlc ho hT hp;obtain ⟨⟨o1, o2, o3⟩, oa⟩ := ho x (List.mem_cons_self ..);have hndc : (numsA Sc).Nodup := (nums_pre hlc hT).nodup hnd
      have hx : x.phys ∉ sc := fun hm => by
       have := hp.nodup_iff.1 hndc;rw [List.nodup_append] at this;exact this.2.2 _ hm _ (by simp) rfl
      have hn : nodeA rd x (r == 0) sc = .ok (ndA rd x, x.phys :: sc) := by
       unfold nodeA;rw [if_neg hx, if_neg (by rw [Decidable.not_not]; exact o1), o2];exact if_pos ⟨rfl, o3⟩
      have f1 : takeF rd r (Sc, sc) x = takeA rd r (ndA rd x) (Sc, x.phys :: sc) := by show (match nodeA rd x (r == 0) sc with | .error e => Except.error e | .ok (m, seen) => takeA rd r m (Sc, seen)) = _; rw [hn]
      have hT1 : ∀ k, rowA T k = rowA Sc k ++ (rowsB rd r [ndA rd x] k ++ (rowsB rd r (q.map (ndA rd)) k ++ Z k)) := fun k => by
       rw [hT k, List.map_cons, rowsB_cons rd r (ndA rd x) (q.map (ndA rd)), List.append_assoc]
      have hp1 : (numsA Sc).Perm ((x.phys :: sc) ++ (q.map Ent.phys ++ p)) := by
       refine hp.trans ?_;rw [List.map_cons, List.cons_append, List.cons_append];exact List.perm_middle
      obtain ⟨S3, s3, t1, t2, t3, t4⟩ := take_again rd T hnd r (ndA rd x) Sc (x.phys :: sc) (q.map Ent.phys ++ p) _ hlc (by omega) oa hT1 hp1;obtain ⟨S4, s4, u1, u2, u3, u4⟩ := ih S3 s3 (by omega) (fun y hy => ho y (List.mem_cons_of_mem _ hy)) (fun k => by rw [hT1 k, t3 k, List.append_assoc]) t4;refine ⟨S4, s4, ?_, by omega, fun k => ?_, u4⟩
      ·rw [List.foldlM_cons, f1, t1]; exact u1
      ·rw [u3, t3, List.map_cons, rowsB_cons rd r (ndA rd x) (q.map (ndA rd)), List.append_assoc]
   have hTl : ∀ k, rowA T k = rowA (pushA S (r + 1) l) k ++ (rowsB rd r (l.map (ndA rd)) k ++ Z k) := fun k => by
    rw [hT k, push_rows (by omega), rowsB_up, List.append_assoc];by_cases e : k = r + 1
    ·subst e
     have : rowsB rd r (l.map (ndA rd)) (r + 1) = [] := by unfold rowsB; rw [if_neg (by omega)]
     rw [if_pos rfl, if_pos rfl, this, List.nil_append]
    ·rw [if_neg e, if_neg e, List.nil_append]
   obtain ⟨S4, s4, u1, u2, u3, u4⟩ := key l (pushA S (r + 1) l) seen (by rw [pushA_len]; exact hl) ho hTl (by
    refine (nums_push S r (by omega) l).trans ?_;refine (hp.append_right _).trans ?_;rw [List.append_assoc]
    exact List.Perm.append_left _ List.perm_append_comm)
   refine ⟨S4, s4, u1, by rw [u2, pushA_len], fun k => ?_, u4⟩;rw [u3, push_rows (by omega), List.append_assoc, rowsB_up];by_cases e : k = r + 1
   ·subst e
    have : rowsB rd r (l.map (ndA rd)) (r + 1) = [] := by unfold rowsB; rw [if_neg (by omega)]
    rw [if_pos rfl, if_pos rfl, this, List.append_nil]
   ·rw [if_neg e, if_neg e, List.nil_append]
structure Stands (rd : Rd) (S : Shp) : Prop where
 rows : ∀ r, r + 1 < S.length → rowA S r = (headsA S r).map (ndA rd)
 ok : ∀ r, r + 1 < S.length → ∀ x ∈ headsA S r, OkE rd (r == 0) x
structure TreeOk (S : Shp) : Prop where
 good : GoodS S
 logs : ∀ r, r + 1 < S.length → (rowA S r).map (fun n => (eat n 0).log) = (headsA S r).map Ent.log
 root : RootedA ((S.length - 1 : Nat) : Int) (rootA S)
theorem load_stands {rd : Rd} {no : Bool} {depth : Int} {root : List Ent} {S : Shp} (h : loadA rd no depth root = .ok S) : Stands rd S ∧ TreeOk S ∧ (S.length : Int) = depth + 1 ∧ rowA S (S.length - 1) = [root] := by
 obtain ⟨g1, g2, g3⟩ := loadA_good h;have hroot := loadA_rooted h;unfold loadA at h
 split at h
 ·rename_i hk
  obtain ⟨D, rfl⟩ : ∃ D : Nat, depth = D := ⟨depth.toNat, by have := g1.well.pos; omega⟩;rw [Int.toNat_natCast] at h
  cases ht : takeA rd D root (List.replicate (D + 1) [], []) with
  | error e => rw [ht] at h; cases h
  | ok q =>
    obtain ⟨S2, s2⟩ := q;rw [ht] at h;dsimp only at h
    split at h
    ·injection h with h
     subst h;obtain ⟨t1, t2, t3⟩ := take_stood rd D root _ _ _ _ (by rw [List.length_replicate]; omega) ht
     have hl : S2.length = D + 1 := by omega
     have hrow : ∀ k, k ≤ D → rowA S2 k = below rd (D - k) [root] := fun k hk => by
      rw [t3, rowA_repl, List.nil_append]; unfold rowsB; rw [if_pos hk]
     have hst : Stands rd S2 := ⟨fun r hr => by
      unfold headsA;rw [hrow r (by omega), hrow (r + 1) (by omega), ← below_last]
      congr 1; omega, fun r hr x hx => by
      unfold headsA at hx;rw [hrow (r + 1) (by omega)] at hx
      exact okAll_to rd D [root] (fun l hl => by rw [List.mem_singleton] at hl; rw [hl]; exact t2) r (by omega) x (by rw [show D - 1 - r = D - (r + 1) by omega]; exact hx)⟩
     refine ⟨hst, ⟨g1, fun r hr => ?_, ?_⟩, g2, g3⟩
     ·rw [hst.rows r hr, List.map_map]
      exact List.map_congr_left fun x hx => (hst.ok r hr x hx).2.2
     ·unfold rootA
      rw [g3, hl];exact hroot
    ·cases h
 ·cases h
theorem load_again {rd : Rd} {T : Shp} (h : TreeOk T) (hs : Stands rd T) : loadA rd false ((T.length - 1 : Nat) : Int) (rootA T) = .ok T := by
 have hpos := h.good.well.pos
 have hroot : rowA T (T.length - 1) = [rootA T] := by
  have := h.good.well.root;unfold rootA
  match hq : rowA T (T.length - 1) with
  | [] => rw [hq] at this; cases this
  | [x] => rfl
  | x :: y :: z => rw [hq] at this; cases this
 obtain ⟨D, hD⟩ : ∃ D, T.length = D + 1 := ⟨T.length - 1, by omega⟩
 have hrow : ∀ j, j ≤ D → rowA T (D - j) = below rd j [rootA T] := fun j => by
  induction j with
  | zero => intro _; rw [Nat.sub_zero, show D = T.length - 1 by omega]; exact hroot
  | succ j ih =>
    intro hj;rw [hs.rows (D - (j + 1)) (by omega), below_last, ← ih (by omega)];unfold headsA;rw [show D - (j + 1) + 1 = D - j by omega]
 have hrowB : ∀ k, rowA T k = rowsB rd D [rootA T] k := fun k => by
  unfold rowsB;by_cases e : k ≤ D
  ·rw [if_pos e, ← hrow (D - k) (by omega), show D - (D - k) = k by omega]
  ·rw [if_neg e, rowA_none (by omega)]
 have hok : okAll rd D (rootA T) := okAll_of rd D [rootA T] (fun k hk x hx => by
  rw [← hrow (D - 1 - k) (by omega), show D - (D - 1 - k) = k + 1 by omega] at hx
  exact hs.ok k (by omega) x hx) _ (List.mem_singleton.2 rfl)
 have hlen0 : (List.replicate (D + 1) ([] : List (List Ent))).length = T.length := by rw [List.length_replicate]; omega
 obtain ⟨S', s', t1, t2, t3, t4⟩ := take_again rd T h.good.nd D (rootA T) (List.replicate (D + 1) []) [] [] (fun _ => []) hlen0 (by omega) hok (fun k => by rw [hrowB, rowA_repl, List.nil_append, List.append_nil]) (by rw [nums_repl]; exact List.Perm.refl _)
 have hST : S' = T := by
  apply List.ext_getElem (by omega)
  intro k h1 h2
  have e1 : rowA S' k = S'[k] := by unfold rowA; rw [List.getElem?_eq_getElem h1]; rfl
  have e2 : rowA T k = T[k] := by unfold rowA; rw [List.getElem?_eq_getElem h2]; rfl
  rw [← e1, ← e2, t3, rowA_repl, List.nil_append, hrowB]
 subst hST;unfold loadA;rw [if_pos ⟨h.root, .inr rfl⟩, Int.toNat_natCast, hD, Nat.add_sub_cancel, t1];exact if_pos ⟨h.good.rise, h.good.free⟩
open Go.RowKit
theorem sortC_mem (l : List Ch) (c : Ch) : c ∈ sortC l ↔ c ∈ l := (List.mergeSort_perm l _).mem_iff
theorem blk_mem {S : Shp} {c : Ch} (h : c ∈ blocksA S) : ∃ r, r + 1 < S.length ∧ ∃ p ∈ (headsA S r).zip (rowA S r), c = (p.1.phys, encN p.2 (r == 0)) := by
 unfold blocksA at h;rw [sortC_mem] at h;unfold blkTo at h;obtain ⟨r, hr, h⟩ := List.mem_flatMap.1 h;unfold blkR at h;obtain ⟨p, hp, rfl⟩ := List.mem_map.1 h;refine ⟨r, ?_, p, hp, rfl⟩;by_cases e : r + 1 < S.length
 ·exact e
 ·have := (List.of_mem_zip hp).1
  unfold headsA at this;rw [rowA_none (by omega)] at this
  cases this
theorem mem_blk {S : Shp} {r : Nat} (hr : r < S.length) {p : Ent × List Ent} (hp : p ∈ (headsA S r).zip (rowA S r)) : (p.1.phys, encN p.2 (r == 0)) ∈ blocksA S := by
 unfold blocksA;rw [sortC_mem];unfold blkTo;refine List.mem_flatMap.2 ⟨r, List.mem_range.2 hr, ?_⟩;unfold blkR;exact List.mem_map.2 ⟨p, hp, rfl⟩
theorem blocks_nums {S : Shp} (h : WellS S) : ((blocksA S).map (·.1)).Perm (numsA S) := by
 unfold blocksA;rw [← nums_blk (well_le h)];exact (List.mergeSort_perm _ _).map _
theorem stands_blk {rd : Rd} {S : Shp} (h : Stands rd S) : ∀ c ∈ blocksA S, rd c.1 = (c.2, 0) := by
 intro c hc;obtain ⟨r, hr, p, hp, rfl⟩ := blk_mem hc;have hx := (List.of_mem_zip hp).1;obtain ⟨o1, o2, o3⟩ := h.ok r hr p.1 hx
 have hn : p.2 = ndA rd p.1 := by
  rw [h.rows r hr] at hp;obtain ⟨i, hi, e⟩ := List.mem_iff_getElem.1 hp;rw [List.getElem_zip, List.getElem_map] at e;rw [← e]
 obtain ⟨d1, d2⟩ := decN_some o2
 show rd p.1.phys = (encN p.2 (r == 0), 0)
 have : encN p.2 (r == 0) = (rd p.1.phys).1 := by unfold encN; rw [hn, if_pos d1, d2]
 rw [this, ← o1]
theorem stands_of {rd : Rd} {T : Shp} (hT : TreeOk T) (h : ∀ c ∈ blocksA T, rd c.1 = (c.2, 0)) : Stands rd T := by
 have key : ∀ r, r + 1 < T.length → ∀ p ∈ (headsA T r).zip (rowA T r), (rd p.1.phys).2 = 0 ∧ decN (rd p.1.phys).1 = some (p.2, r == 0) := fun r hr p hp => by
  have h1 := h _ (mem_blk (by omega) hp);have hok := hT.good.nodes r hr p.2 (List.of_mem_zip hp).2;have h1 : rd p.1.phys = (encN p.2 (r == 0), 0) := h1;rw [h1];refine ⟨rfl, ?_⟩
  show decN (encN p.2 (r == 0)) = _
  unfold encN;rw [if_pos hok];exact decN_nodeB hok
 have key2 : ∀ r, r + 1 < T.length → ∀ p ∈ (headsA T r).zip (rowA T r), ndA rd p.1 = p.2 := fun r hr p hp => by
  unfold ndA; rw [(key r hr p hp).2]
 have hlen : ∀ r, r + 1 < T.length → (headsA T r).length = (rowA T r).length := hT.good.well.heads
 have hrows : ∀ r, r + 1 < T.length → rowA T r = (headsA T r).map (ndA rd) := fun r hr => by
  apply List.ext_getElem (by rw [List.length_map, hlen r hr])
  intro i h1 h2;rw [List.getElem_map]
  have hi : i < (headsA T r).length := by rw [hlen r hr]; exact h1
  have := key2 r hr ((headsA T r)[i], (rowA T r)[i]) (List.mem_iff_getElem.2 ⟨i, by rw [List.length_zip]; omega, List.getElem_zip⟩);exact this.symm
 refine ⟨hrows, fun r hr x hx => ?_⟩;obtain ⟨i, hi, rfl⟩ := List.mem_iff_getElem.1 hx
 have hi2 : i < (rowA T r).length := by rw [← hlen r hr]; exact hi
 have hmem : ((headsA T r)[i], (rowA T r)[i]) ∈ (headsA T r).zip (rowA T r) := List.mem_iff_getElem.2 ⟨i, by rw [List.length_zip]; omega, List.getElem_zip⟩;obtain ⟨k1, k2⟩ := key r hr _ hmem;have k3 := key2 r hr _ hmem;refine ⟨k1, by rw [k3]; exact k2, ?_⟩;rw [k3];have := hT.logs r hr;have e := congrArg (fun l : List Int => l[i]?) this;rw [List.getElem?_map, List.getElem?_map, List.getElem?_eq_getElem hi, List.getElem?_eq_getElem hi2] at e
 simpa using e
theorem findC_of {l : List Ch} {b : Int} {c : Ch} (h : findC l b = some c) : c ∈ l ∧ c.1 = b := ⟨List.mem_of_find?_eq_some h, by have := List.find?_some h; simpa using this⟩
theorem fst_inj {l : List Ch} (h : (l.map (·.1)).Nodup) {a b : Ch} (ha : a ∈ l) (hb : b ∈ l) (e : a.1 = b.1) : a = b := by
 induction l with
 | nil => cases ha
 | cons x l ih =>
   rw [List.map_cons, List.nodup_cons] at h;obtain ⟨h1, h2⟩ := h;rcases List.mem_cons.1 ha with ha | ha
   ·rcases List.mem_cons.1 hb with hb | hb
    ·rw [ha, hb]
    ·exact absurd (List.mem_map.2 ⟨b, hb, by rw [← e, ha]⟩) h1
   ·rcases List.mem_cons.1 hb with hb | hb
    ·exact absurd (List.mem_map.2 ⟨a, ha, by rw [e, hb]⟩) h1
    ·exact ih h2 ha hb
theorem blocks_nd {S : Shp} (h : GoodS S) : ((blocksA S).map (·.1)).Nodup := (blocks_nums h.well).nodup_iff.2 h.nd
theorem findC_mem {l : List Ch} (h : (l.map (·.1)).Nodup) {c : Ch} (hc : c ∈ l) : findC l c.1 = some c := by
 unfold findC
 induction l with
 | nil => cases hc
 | cons x l ih =>
   rw [List.map_cons, List.nodup_cons] at h;rw [List.find?_cons];rcases List.mem_cons.1 hc with rfl | hc
   ·simp
   ·have : x.1 ≠ c.1 := fun e => h.1 (List.mem_map.2 ⟨c, hc, e.symm⟩)
    rw [decide_eq_false this];exact ih h.2 hc
theorem tell_stands {rd rd' : Rd} {S T : Shp} (hs : Stands rd S) (hT : TreeOk T) (hnew : ∀ c ∈ chgA (blocksA S) (blocksA T), rd' c.1 = (c.2, 0))
 (hold : ∀ b, (∀ c ∈ chgA (blocksA S) (blocksA T), c.1 ≠ b) → (rd b).2 = 0 → rd' b = rd b) : Stands rd' T := by
 refine stands_of hT fun c hc => ?_;by_cases e : findC (blocksA S) c.1 = some c
 ·have h1 := stands_blk hs c (findC_of e).1
  rw [hold c.1 (fun d hd k => ?_) (by rw [h1]), h1];unfold chgA at hd;obtain ⟨d1, d2⟩ := List.mem_filter.1 hd;have := fst_inj (blocks_nd hT.good) d1 hc k;subst this;rw [decide_eq_true_iff] at d2;exact d2 e
 ·exact hnew c (by unfold chgA; exact List.mem_filter.2 ⟨hc, decide_eq_true e⟩)
abbrev mapS (g : Ent → Ent) (S : Shp) : Shp := S.map fun n => n.map fun l => l.map g
theorem root_row {S : Shp} (h : WellS S) : rowA S (S.length - 1) = [rootA S] := by
 have := h.root;unfold rootA
 match hq : rowA S (S.length - 1) with
 | [] => rw [hq] at this; cases this
 | [x] => rfl
 | x :: y :: z => rw [hq] at this; cases this
open Go.RowKit
def layF (F : Nat → ByteArray) (C : List Ch) (k : Nat) : ByteArray := match findC C (k : Int) with | some c => c.2 | none => F k
theorem findC_none {l : List Ch} {b : Int} (h : ∀ c ∈ l, c.1 ≠ b) : findC l b = none := by
 unfold findC;rw [List.find?_eq_none];intro c hc
 simpa using h c hc
theorem layF_take {F : Nat → ByteArray} {C : List Ch} (hn : (C.map (·.1)).Nodup) {i : Nat} (hi : i < C.length) (h0 : 0 ≤ (C[i]).1) : layF F (C.take (i + 1)) = upd (layF F (C.take i)) (C[i]).1.toNat (C[i]).2 := by
 funext k
 have hsub : C.take (i + 1) = C.take i ++ [C[i]] := List.take_succ_eq_append_getElem hi
 have hni : ∀ c ∈ C.take i, c.1 ≠ (C[i]).1 := fun c hc e => by
  have hm : ((C.take (i + 1)).map (·.1)).Nodup := (List.Sublist.map _ (List.take_sublist _ _)).nodup hn;rw [hsub, List.map_append, List.nodup_append] at hm;exact hm.2.2 _ (List.mem_map.2 ⟨c, hc, rfl⟩) _ (by simp) e
 unfold upd;by_cases e : k = (C[i]).1.toNat
 ·rw [if_pos e]
  have ek : (k : Int) = (C[i]).1 := by omega
  have : findC (C.take (i + 1)) (k : Int) = some C[i] := by
   rw [hsub, ek];unfold findC;rw [List.find?_append];have := findC_none hni;unfold findC at this;rw [this]; simp
  unfold layF;rw [this]
 ·rw [if_neg e]
  have : findC (C.take (i + 1)) (k : Int) = findC (C.take i) (k : Int) := by
   rw [hsub];unfold findC;rw [List.find?_append]
   have : List.find? (fun c : Ch => decide (c.1 = (k : Int))) [C[i]] = none := by
    rw [List.find?_eq_none];intro c hc;rw [List.mem_singleton] at hc;subst hc
    simp; omega
   rw [this]
   cases List.find? (fun c : Ch => decide (c.1 = (k : Int))) (C.take i) <;> rfl
  unfold layF;rw [this]
theorem layF_size {F : Nat → ByteArray} {C : List Ch} (hF : ∀ k, (F k).size ≤ 1000) (hC : ∀ c ∈ C, c.2.size ≤ 1000) : ∀ k, (layF F C k).size ≤ 1000 := fun k => by
 unfold layF
 cases h : findC C (k : Int) with
 | none => exact hF k
 | some c => exact hC c (findC_of h).1
theorem rdOf_in {F : Nat → ByteArray} {bad b : Int} (h : (rdOf F bad b).2 = 0) : (0 ≤ b ∧ b < 4096 ∧ b ≠ bad) ∧ rdOf F bad b = (F b.toNat, 0) := by
 unfold rdOf at h ⊢
 split at h
 ·cases h
 ·rename_i k
  exact ⟨by omega, if_neg k⟩
theorem rdOf_get (F : Nat → ByteArray) {bad b : Int} (h0 : 0 ≤ b) (h1 : b < 4096) (h2 : b ≠ bad) : rdOf F bad b = (F b.toNat, 0) := by
 unfold rdOf; rw [if_neg (by omega)]
theorem chg_mem {B A : List Ch} {c : Ch} : c ∈ chgA B A ↔ c ∈ A ∧ findC B c.1 ≠ some c := by unfold chgA; rw [List.mem_filter, decide_eq_true_iff]
theorem chg_nd {S T : Shp} (hT : GoodS T) : ((chgA (blocksA S) (blocksA T)).map (·.1)).Nodup := (List.Sublist.map _ (by unfold chgA; exact List.filter_sublist)).nodup (blocks_nd hT)
theorem tree_phys {S : Shp} (h : TreeOk S) : ∀ b ∈ numsA S, 1 ≤ b ∧ b < 4096 := fun b hb => by
 unfold numsA at hb;obtain ⟨r, -, hb⟩ := List.mem_flatMap.1 hb;obtain ⟨x, hx, rfl⟩ := List.mem_map.1 hb
 have hroot : ∀ x ∈ rowA S (S.length - 1), RowOk (decide (S.length = 1)) x := fun x hx => by
  rw [root_row h.good.well, List.mem_singleton] at hx;subst hx;have hr := h.root;unfold RootedA at hr;rw [ok_kindN (by show (1 : Int) ≠ 0; decide)] at hr;unfold Full at hr;have := hr.2.2.2.2.2.1;have hp := h.good.well.pos;rw [show decide (S.length = 1) = decide (((S.length - 1 : Nat) : Int) = 0) from decide_eq_decide.2 ⟨fun e => by omega, fun e => by omega⟩];exact this
 have := heads_len h.good hroot r x hx;unfold EntOk at this
 simp at this
 omega
theorem blk_phys {S : Shp} (h : TreeOk S) : ∀ c ∈ blocksA S, 1 ≤ c.1 ∧ c.1 < 4096 := fun c hc => tree_phys h _ ((blocks_nums h.good.well).mem_iff.1 (List.mem_map.2 ⟨c, hc, rfl⟩))
theorem lay_load {F : Nat → ByteArray} {bad : Int} {S T : Shp} (hs : Stands (rdOf F bad) S) (hT : TreeOk T) : loadA (rdOf (layF F (chgA (blocksA S) (blocksA T))) (-1)) false ((T.length - 1 : Nat) : Int) (rootA T) = .ok T := by
 refine load_again hT (tell_stands hs hT (fun c hc => ?_) fun b hb h0 => ?_)
 ·have hp := blk_phys hT c (chg_mem.1 hc).1
  rw [rdOf_get _ (by omega) (by omega) (by omega)]
  have : layF F (chgA (blocksA S) (blocksA T)) c.1.toNat = c.2 := by
   unfold layF;rw [show ((c.1.toNat : Nat) : Int) = c.1 by omega, findC_mem (chg_nd hT.good) hc]
  rw [this]
 ·obtain ⟨h1, h2⟩ := rdOf_in h0
  rw [h2, rdOf_get _ h1.1 h1.2.1 (by omega)]
  have : layF F (chgA (blocksA S) (blocksA T)) b.toNat = F b.toNat := by
   unfold layF;rw [show ((b.toNat : Nat) : Int) = b by omega, findC_none hb]
  rw [this]
theorem sortI_perm (l : List Int) : (sortI l).Perm l := List.mergeSort_perm _ _
theorem sortI_pw (l : List Int) : (sortI l).Pairwise (· ≤ ·) := by
 have := List.pairwise_mergeSort (le := fun x y : Int => decide (x ≤ y)) (fun a b c h1 h2 => by simp at *; omega) (fun a b => by simp; omega) l
 exact this.imp fun h => by simpa using h
theorem sortI_of {l s : List Int} (hp : s.Perm l) (hs : s.Pairwise (· ≤ ·)) : s = sortI l :=
 List.Perm.eq_of_pairwise (fun a b _ _ h1 h2 => Int.le_antisymm h1 h2) hs (sortI_pw l) (hp.trans (sortI_perm l).symm)
theorem sortC_pw (l : List Ch) : (sortC l).Pairwise (fun a b => a.1 ≤ b.1) := by
 have := List.pairwise_mergeSort (le := fun x y : Ch => decide (x.1 ≤ y.1)) (fun a b c h1 h2 => by simp at *; omega) (fun a b => by simp; omega) l
 exact this.imp fun h => by simpa using h
theorem blocks_fst {S : Shp} (h : WellS S) : (blocksA S).map (·.1) = sortI (numsA S) := sortI_of (blocks_nums h) (by
 rw [List.pairwise_map]; unfold blocksA; exact sortC_pw _)
theorem free_is {S T : Shp} (hS : WellS S) (hT : WellS T) : freeA (blocksA S) (blocksA T) = (sortI (numsA S)).filter fun b => decide (b ∉ sortI (numsA T)) := by
 unfold freeA;rw [← blocks_fst hS, ← blocks_fst hT, List.filter_map];congr 1;refine List.filter_congr fun c hc => ?_
 show (findC (blocksA T) c.1).isNone = decide (c.1 ∉ (blocksA T).map (·.1))
 by_cases e : c.1 ∈ (blocksA T).map (·.1)
 ·rw [decide_eq_false (by simpa using e)]
  cases h : findC (blocksA T) c.1 with
  | some d => rfl
  | none =>
    exfalso;obtain ⟨d, hd, k⟩ := List.mem_map.1 e;unfold findC at h;rw [List.find?_eq_none] at h;have := h d hd
    simp at this
    exact this k
 ·rw [decide_eq_true e, findC_none (fun d hd k => e (List.mem_map.2 ⟨d, hd, k⟩))]
  rfl
structure HoldsOk (F : Nat → ByteArray) (N : List Int) (row : List Ent) (C : List Ch) (T : Shp) (FR fresh : List Int) : Prop where
 rng : ∀ c ∈ C, 0 ≤ c.1 ∧ c.1 < 4096
 rise : C.Pairwise fun a b => a.1 < b.1
 new : ∀ c ∈ C, c.1 ∈ N → c.2 ≠ F c.1.toNat
 size : ∀ c ∈ C, c.2.size ≤ 1000
 load : loadA (rdOf (layF F C) (-1)) false ((T.length - 1 : Nat) : Int) (rootA T) = .ok T
 row : listA T = row
 node : ∀ c ∈ C, c.1 ∈ sortI (numsA T)
 gone : FR = N.filter fun b => decide (b ∉ sortI (numsA T))
 come : ∀ f ∈ fresh, f ∈ (sortI (numsA T)).filter fun b => decide (b ∉ N)
 many : ((sortI (numsA T)).filter fun b => decide (b ∉ N)).length = fresh.length
theorem enc_size {l : List Ent} (leaf : Bool) : (encN l leaf).size ≤ 1000 := by
 unfold encN;split
 ·rename_i h; rw [nodeB_size leaf h.2.1]; omega
 ·show 0 ≤ 1000; omega
open Go.RowKit
def nxW : Nx (Nat → Bool) := fun s => match (List.range 2048).find? (fun j => !s (2048 + j)) with
 | some j => ((((2048 + j : Nat) : Int), 0), upd s (2048 + j) true)
 | none => ((0, 170), s)
theorem find_first {f : Nat → Bool} {k n : Nat} (hk : k < n) (h : f k = true) (h2 : ∀ j, j < k → f j = false) : (List.range n).find? f = some k := by
 rw [List.find?_eq_some_iff_getElem];refine ⟨h, k, by rw [List.length_range]; exact hk, List.getElem_range _, fun j hj => ?_⟩;rw [List.getElem_range, h2 j hj]; rfl
theorem nxW_some {s : Nat → Bool} {k : Nat} (hk : k < 2048) (h : s (2048 + k) = false) (h2 : ∀ j, j < k → s (2048 + j) = true) : nxW s = ((((2048 + k : Nat) : Int), 0), upd s (2048 + k) true) := by
 unfold nxW;rw [find_first hk (by rw [h]; rfl) (fun j hj => by rw [h2 j hj]; rfl)]
theorem nxW_none {s : Nat → Bool} (h : ∀ j, j < 2048 → s (2048 + j) = true) : nxW s = ((0, 170), s) := by
 unfold nxW
 have : (List.range 2048).find? (fun j => !s (2048 + j)) = none := by
  rw [List.find?_eq_none];intro j hj;rw [h j (List.mem_range.1 hj)]; simp
 rw [this]
def useF (s : Nat → Bool) : Nat → Value := fun j => .bool (s j)
theorem useF_upd (s : Nat → Bool) (i : Nat) (b : Bool) : upd (useF s) i (.bool b) = useF (upd s i b) := by
 funext j
 unfold useF upd
 split <;> rfl
abbrev wldC (g u : Nat) (dp : Int) (vt : Value) : Array Value := #[.slice (some ⟨g, 0, none⟩) 4096 4096, .int .i64 dp, vt, .slice (some ⟨u, 0, none⟩) 4096 4096]
structure UseAt (u : Nat) (s : Nat → Bool) (w : World) : Prop where
 c : CellsAt u 4096 (useF s) w
 t : TyAt u 4 w
theorem UseAt.eq_block {u : Nat} {s : Nat → Bool} {w w' : World} (h : UseAt u s w) (hs : w.heap.size ≤ w'.heap.size) (e : w'.heap[u]? = w.heap[u]?) : UseAt u s w' := ⟨h.c.eq_block hs e, h.t.eq_block e⟩
theorem UseAt.kept1 {u : Nat} {s : Nat → Bool} {w w' : World} (h : UseAt u s w) (b : Below w.heap.size w w') : UseAt u s w' := h.eq_block b.size (b.block u h.c.1)
theorem UseAt.set {u : Nat} {s : Nat → Bool} {w : World} (h : UseAt u s w) {i : Nat} (hi : i < 4096) (b : Bool) : UseAt u (upd s i b) (w.setCell ⟨u, i, none⟩ (.bool b)) :=
 ⟨(h.c.set hi (.bool b)).congr fun j _ => congrFun (useF_upd s i b) j, h.t.set _ _⟩
structure WldAt (p g u : Nat) (F : Nat → ByteArray) (dp : Int) (vt : Value) (s : Nat → Bool) (w : World) : Prop where
 b : Blk p (wldC g u dp vt) 88 w
 d : DskAt g F w
 u : UseAt u s w
theorem WldAt.kept1 {p g u : Nat} {F : Nat → ByteArray} {dp : Int} {vt : Value} {s : Nat → Bool} {w w' : World} (h : WldAt p g u F dp vt s w) (b : Below w.heap.size w w') : WldAt p g u F dp vt s w' := ⟨h.b.kept1 b, h.d.kept1 b, h.u.kept1 b⟩
theorem WldAt.kept {p g u : Nat} {F : Nat → ByteArray} {dp : Int} {vt : Value} {s : Nat → Bool} {w w' : World} {B : Nat} (h : WldAt p g u F dp vt s w) (hB : p < B ∧ g < B ∧ u < B) (b : Below B w w') : WldAt p g u F dp vt s w' :=
 ⟨(b.block p hB.1).trans h.b, h.d.eq_block b.size (b.block g hB.2.1), h.u.eq_block b.size (b.block u hB.2.2)⟩
theorem WldAt.ne {p g u : Nat} {F : Nat → ByteArray} {dp : Int} {vt : Value} {s : Nat → Bool} {w : World} (h : WldAt p g u F dp vt s w) : p ≠ g ∧ p ≠ u ∧ g ≠ u :=
 ⟨fun e => absurd (ty_one ⟨_, _, h.b⟩ (e ▸ h.d.t)) (by decide), fun e => absurd (ty_one ⟨_, _, h.b⟩ (e ▸ h.u.t)) (by decide), fun e => absurd (ty_one h.d.t (e ▸ h.u.t)) (by decide)⟩
theorem noTree_bool : noTree 4 := by unfold noTree; decide
theorem WldAt.use {p g u : Nat} {F : Nat → ByteArray} {dp : Int} {vt : Value} {s : Nat → Bool} {w : World} (h : WldAt p g u F dp vt s w) {i : Nat} (hi : i < 4096) (b : Bool) : WldAt p g u F dp vt (upd s i b) (w.setCell ⟨u, i, none⟩ (.bool b)) :=
 ⟨(Below.heap_setCell w ⟨u, i, none⟩ _ p h.ne.2.1).trans h.b, h.d.eq_block (by simp [World.setCell]) (Below.heap_setCell w ⟨u, i, none⟩ _ g h.ne.2.2), h.u.set hi b⟩
theorem WldAt.put {p g u : Nat} {F : Nat → ByteArray} {dp : Int} {vt : Value} {s : Nat → Bool} {w : World} (h : WldAt p g u F dp vt s w) {i : Nat} (hi : i < 4096) (t : ByteArray) : WldAt p g u (upd F i t) dp vt s (w.setCell ⟨g, i, none⟩ (.string t)) :=
 ⟨(Below.heap_setCell w ⟨g, i, none⟩ _ p h.ne.1).trans h.b, h.d.set hi t, h.u.eq_block (by simp [World.setCell]) (Below.heap_setCell w ⟨g, i, none⟩ _ u h.ne.2.2.symm)⟩
theorem wfresh_any (p g u : Nat) (F : Nat → ByteArray) (dp : Int) (vt : Value) (s : Nat → Bool) (W : World) (h : WldAt p g u F dp vt s W) :
 Calls Tryz.prog 35 #[.pointer (some ⟨p, 0, none⟩)] W fun e W' => e = .returned (.tuple #[.int .i64 (nxW s).1.1, .int .i64 (nxW s).1.2]) ∧ WldAt p g u F dp vt (nxW s).2 W' ∧ Turns noTree u W W' ∧ ∀ k, k ≠ u → W'.heap[k]? = W.heap[k]? := by
 have HW := Lib.hid h;have HS : Hid (∀ k, k < 2048 → s (2048 + k) = false → (∀ j, j < k → s (2048 + j) = true) → nxW s = ((((2048 + k : Nat) : Int), 0), upd s (2048 + k) true)) := Lib.hid fun k => nxW_some;have HN : Hid ((∀ j, j < 2048 → s (2048 + j) = true) → nxW s = ((0, 170), s)) := Lib.hid nxW_none;have c3 := h.b.cell 3;simp only [List.getElem?_toArray, List.getElem?_cons_zero, List.getElem?_cons_succ] at c3;clear h;generalize nxW s = R at *
 go_enter Tryz.func35, Tryz.ntmps35
 go_wp2
 go_loopw [4] (fun q wr => ∃ k : Nat, q = .int .i64 ((2048 + k : Nat) : Int) ∧ k ≤ 2048 ∧ Hid (∀ j, j < k → s (2048 + j) = true) ∧ wr = W) (fun q _ => 4096 - (intOf q).toNat)
 case atStart => exact ⟨0, rfl, Nat.zero_le _, Lib.hid fun j hj => by omega, rfl⟩
 case round =>
  obtain ⟨k, rfl, hk, HK, rfl⟩ := hrel;by_cases hlt : k < 2048
  ·have u2 := (HW.out.u.c.2 (2048 + k) (by omega)).2
   have u1 : wr.cell? ⟨u, 2048 + k, none⟩ = some (.bool (s (2048 + k))) := (HW.out.u.c.2 (2048 + k) (by omega)).1;have d1 : decide ((2048 : Int) + (k : Int) < 4096) = true := decide_eq_true (by omega);obtain ⟨b, hb⟩ : ∃ b, s (2048 + k) = b := ⟨_, rfl⟩;rw [hb] at u1;have HB := Lib.hid hb;clear hb
   cases b with
   | false =>
     have HE := Lib.hid (HS.out k hlt HB.out HK.out);have HD := Lib.hid (HW.out.use (show 2048 + k < 4096 by omega) true);have HT := Lib.hid (Turns.set (i := 2048 + k) noTree_bool (Nat.le_refl u) HW.out.u.t (.bool true));have HF : Hid (∀ j, j ≠ u → (wr.setCell ⟨u, 2048 + k, none⟩ (.bool true)).heap[j]? = wr.heap[j]?) := Lib.hid fun j hj => Below.heap_setCell wr ⟨u, 2048 + k, none⟩ _ j hj;clear HS HN HK HB;go_wp2
     go_ret2
     rw [HE.out];exact ⟨rfl, HD.out, HT.out, HF.out⟩
   | true =>
     have HK2 : Hid (∀ j, j < k + 1 → s (2048 + j) = true) := Lib.hid fun j hj => by
      by_cases e : j = k
      ·subst e; exact HB.out
      ·exact HK.out j (by omega)
     clear HS HN HK HB u2;go_wp2;exact ⟨⟨k + 1, by go_num, by omega, HK2, trivial⟩, by simp [intOf]; omega⟩
  ·obtain rfl : k = 2048 := by omega
   have HE := Lib.hid (HN.out HK.out);clear HS HN HK;go_wp2
   go_ret2
   rw [HE.out];exact ⟨rfl, HW.out, Turns.refl _ _ _, fun _ _ => rfl⟩
open Go.RowKit
theorem heads_lt {S : Shp} {r : Nat} {x : Ent} (h : x ∈ headsA S r) : r + 1 < S.length := by
 by_cases e : r + 1 < S.length
 ·exact e
 ·unfold headsA at h; rw [rowA_none (by omega)] at h; cases h
theorem hit_iff {l : List Ent} {bl : List Int} : hitA l bl = false ↔ ∀ b ∈ bl, ∀ e ∈ l, ¬ (e.phys ≤ b ∧ b < e.phys + e.len) := by
 unfold hitA;rw [List.any_eq_false];constructor
 ·intro h b hb e he k
  have := h b hb;rw [Bool.not_eq_true, List.any_eq_false] at this;exact this e he (decide_eq_true k)
 ·intro h b hb
  rw [Bool.not_eq_true, List.any_eq_false];intro e he;rw [decide_eq_true_eq];exact h b hb e he
def mvG (lg n tt : Int) (x : Ent) : Ent := if mvP lg n x then ⟨x.log, tt, x.len⟩ else x
section
variable {rd : Rd} {no : Bool} {depth : Int} {root : List Ent} {S : Shp}
def ldG (fr tt : Int) (x : Ent) : Ent := if x.phys = fr then ⟨x.log, tt, x.len⟩ else x
end
open Go.RowKit
theorem root_fit {S : Shp} (h : TreeOk S) : fitE (rootA S) := by
 have hr := h.root;unfold RootedA at hr;rw [ok_kindN (by show (1 : Int) ≠ 0; decide)] at hr;unfold Full at hr;have hr : RowOk (decide (((S.length - 1 : Nat) : Int) = 0)) (rootA S) := hr.2.2.2.2.2.1;intro e he;obtain ⟨i, hi, rfl⟩ := List.mem_iff_getElem.1 he;have := ent_small hr hi;rw [eat_eq hi] at this;exact ⟨⟨by omega, by omega⟩, ⟨by omega, by omega⟩, ⟨by omega, by omega⟩⟩
theorem deep_fit {S : Shp} (h : TreeOk S) : I64 ((S.length - 1 : Nat) : Int) := by
 have hr := h.root;unfold RootedA at hr;rw [ok_kindN (by show (1 : Int) ≠ 0; decide)] at hr;unfold Full at hr;have : ((S.length - 1 : Nat) : Int) ≤ 4 := hr.2.2.2.1.2;exact ⟨by omega, by omega⟩
def MvBad (N : List Int) (n tt : Int) : Prop := tt < 1 ∨ 4096 - n < tt ∨ ∃ b ∈ N, tt ≤ b ∧ b < tt + n
structure GoodR (F : Nat → ByteArray) (N : List Int) (row : List Ent) (R : RpR) (fresh : List Int) : Prop where
 ec : ecR R = 0
 ex : ∃ T, dpR R = ((T.length - 1 : Nat) : Int) ∧ rtR R = rootA T ∧ HoldsOk F N row (chR R) T (frR R) fresh ∧ fitE (rootA T) ∧ (numsA T).length ≤ 100000 ∧ I64 ((T.length - 1 : Nat) : Int)
structure MovedOk (F : Nat → ByteArray) (N : List Int) (row : List Ent) (dp : Int) (root : List Ent) (R : RpR) (lg n tt : Int) : Prop where
 none : (∀ k, k < row.length → mvP lg n (eat row k) = false) → ecR R = 4
 big : ∀ i, i < row.length → mvP lg n (eat row i) = true → 1 ≤ n ∧ n ≤ 2048
 bad : ∀ i, i < row.length → mvP lg n (eat row i) = true → MvBad N n tt → ecR R = 2
 good : ∀ i, i < row.length → mvP lg n (eat row i) = true → ¬ MvBad N n tt → GoodR F N (row.set i ⟨(eat row i).log, tt, (eat row i).len⟩) R [] ∧ (chR R).length ≤ 1 ∧ dpR R = dp ∧ (rtR R).length = root.length ∧ (dp = 0 ∨ rtR R = root)
def LdBad (row : List Ent) (N : List Int) (fr tt : Int) : Prop := tt < 1 ∨ 4096 ≤ tt ∨ takenA row tt = true ∨ (tt ≠ fr ∧ tt ∈ N)
structure LedOk (F : Nat → ByteArray) (N : List Int) (row : List Ent) (dp : Int) (root : List Ent) (R : RpR) (fr tt : Int) : Prop where
 none : fr ∉ N → ecR R = 4
 bad : fr ∈ N → LdBad row N fr tt → ecR R = 2
 same : fr ∈ N → ¬ LdBad row N fr tt → tt = fr → ecR R = 0 ∧ (chR R) = [] ∧ (frR R) = [] ∧ dpR R = dp ∧ rtR R = root
 good : fr ∈ N → ¬ LdBad row N fr tt → tt ≠ fr → GoodR F N row R [tt] ∧ (chR R).length ≤ 2 ∧ dpR R = dp ∧ (rtR R).length = root.length ∧ (0 ≤ fr ∧ fr < 4096) ∧ (∀ c ∈ chR R, c.1 = tt → c.2 = F fr.toNat) ∧ (∃ c ∈ chR R, c.1 = tt) ∧ frR R = [fr]
theorem elem_blocks {l : List Ent} (h : RowOk true l) (b : Int) : elemR (blocksV l) b ↔ takenA l b = true := by
 unfold blocksV;rw [if_pos h];unfold blocksX takenA;rw [norm_elem, physR_elem h, List.any_eq_true];exact ⟨fun ⟨e, he, k⟩ => ⟨e, he, decide_eq_true k⟩, fun ⟨e, he, k⟩ => ⟨e, he, of_decide_eq_true k⟩⟩
open Go.RowKit
open Go.RowKit
def DocEnd (a : Except Int (List Ent × List Int)) (w : World) (e : Ending) (w' : World) : Prop :=
 Below w.heap.size w w' ∧ match a with
 | .ok (r, n) => ∃ vl vn, e = .returned (.tuple #[vl, vn, .int .i64 0]) ∧ ExtsAt w.heap.size vl r w' ∧ IntsFk w.heap.size vn n w'
 | .error c => e = .returned (.tuple #[.slice none 0 0, .slice none 0 0, .int .i64 c]) ∧ c ≠ 0
open Go.RowKit
open Go.RowKit
def lsA : Except Int Shp → List Ent | .ok S => listA S | .error _ => []
def nsA : Except Int Shp → List Int | .ok S => sortI (numsA S) | .error _ => []
def ecA : Except Int Shp → Int | .ok _ => 0 | .error c => c
def WkSay (a : Except Int Shp) (w : World) (e : Ending) (w' : World) : Prop :=
 ∃ vl vn, e = .returned (.tuple #[vl, vn, .int .i64 (ecA a)]) ∧ ExtsAt w.heap.size vl (lsA a) w' ∧ IntsFk w.heap.size vn (nsA a) w' ∧ Below w.heap.size w w'
theorem WalkEnd.say {a : Except Int Shp} {w : World} {e : Ending} {w' : World} (h : WalkEnd a w e w') : WkSay a w e w' := by
 unfold WalkEnd at h;obtain ⟨b, h⟩ := h
 cases a with
 | ok S => obtain ⟨vl, vn, h1, h2, h3⟩ := h; exact ⟨vl, vn, h1, h2, h3, b⟩
 | error c => exact ⟨_, _, h.1, World.ownsRow_nil _ _ _ _, World.ownsRow_nil _ _ _ _, b⟩
theorem DocEnd.say {a : Except Int Shp} {w : World} {e : Ending} {w' : World} (h : DocEnd (saysA a) w e w') : WkSay a w e w' := by
 unfold DocEnd at h;obtain ⟨b, h⟩ := h
 cases a with
 | ok S => obtain ⟨vl, vn, h1, h2, h3⟩ := h; exact ⟨vl, vn, h1, h2, h3, b⟩
 | error c => exact ⟨_, _, h.1, World.ownsRow_nil _ _ _ _, World.ownsRow_nil _ _ _ _, b⟩
theorem TwinF.kept1 {B : Nat} {v : Value} {l : List Ent} {w w' : World} (h : TwinF B v l w) (hb : Below w.heap.size w w') : TwinF B v l w' := twinF_kept h hb
theorem TwinF.grown {B X : Nat} {T : TypeId} {v : Value} {l : List Ent} {w w' : World} (h : TwinF B v l w) (g : w.grownBy w' (some X)) (hX : TyAt X T w) (hne : T ≠ 31) : TwinF B v l w' := by
 obtain ⟨p, cap, e, hp, r⟩ := h;exact ⟨p, cap, e, Nat.lt_of_lt_of_le hp g.size, row_grown r g fun q hq k => by cases k; exact hne (ty_one hX (own_ty r hq).1)⟩
open Go.RowKit
def strsF (F : Nat → ByteArray) : List Value := (List.range 4096).map (strF F)
def takeP (p : Int → Bool) (l : List Int) (k : Nat) : List Int := (l.take k).filter p
open Go.RowKit
open Go.RowKit
structure Stay (p g u : Nat) (w w' : World) : Prop where
 os : w'.os = w.os
 tape : w'.tape = w.tape
 output : w'.output = w.output
 size : w.heap.size ≤ w'.heap.size
 block : ∀ k, k < w.heap.size → k ≠ p → k ≠ g → k ≠ u → w'.heap[k]? = w.heap[k]?
def putB (F : Nat → ByteArray) (C : List Ch) : Nat → ByteArray := C.foldl (fun F c => upd F c.1.toNat c.2) F
def freeU (s : Nat → Bool) (L : List Int) : Nat → Bool := L.foldl (fun s b => upd s b.toNat false) s
theorem putB_take (F : Nat → ByteArray) {C : List Ch} {i : Nat} (h : i < C.length) : putB F (C.take (i + 1)) = upd (putB F (C.take i)) (C[i]).1.toNat (C[i]).2 := by
 unfold putB; rw [List.take_succ_eq_append_getElem h, List.foldl_append]; rfl
theorem freeU_take (s : Nat → Bool) {L : List Int} {i : Nat} (h : i < L.length) : freeU s (L.take (i + 1)) = upd (freeU s (L.take i)) (L[i]).toNat false := by
 unfold freeU; rw [List.take_succ_eq_append_getElem h, List.foldl_append]; rfl
theorem putB_lay (F : Nat → ByteArray) {C : List Ch} (hn : (C.map (·.1)).Nodup) (h0 : ∀ c ∈ C, 0 ≤ c.1) : putB F C = layF F C := by
 have key : ∀ i, i ≤ C.length → putB F (C.take i) = layF F (C.take i) := fun i => by
  induction i with
  | zero => intro _; rfl
  | succ i ih =>
    intro hi;rw [putB_take F (by omega), ih (by omega), layF_take hn (by omega) (h0 _ (List.getElem_mem _))]
 have := key C.length (Nat.le_refl _);rwa [List.take_length] at this
theorem own_stay {p g u B z n : Nat} {e : TypeId} {v : Value} {xs : List Value} {w w' : World} (h : w.ownsRow B e z v n xs) (st : Stay p g u w w') (hp : TyAt p 88 w) (hg : TyAt g 9 w) (hu : TyAt u 4 w)
 (h1 : 88 ≠ e) (h2 : 9 ≠ e) (h3 : 4 ≠ e) : w'.ownsRow B e z v n xs :=
 own_eq h fun q hq => by
  obtain ⟨t1, t2, -⟩ := own_ty h hq;exact st.block q t2 (fun k => h1 (ty_one (k ▸ hp) t1)) (fun k => h2 (ty_one (k ▸ hg) t1)) (fun k => h3 (ty_one (k ▸ hu) t1))
theorem Stay.refl (p g u : Nat) (w : World) : Stay p g u w w := ⟨rfl, rfl, rfl, Nat.le_refl _, fun _ _ _ _ _ => rfl⟩
theorem Stay.below {p g u : Nat} {a b c : World} (h : Stay p g u a b) (k : Below b.heap.size b c) : Stay p g u a c :=
 ⟨k.os.trans h.os, k.tape.trans h.tape, k.output.trans h.output, Nat.le_trans h.size k.size, fun q hq h1 h2 h3 => (k.block q (Nat.lt_of_lt_of_le hq h.size)).trans (h.block q hq h1 h2 h3)⟩
theorem Stay.set {p g u : Nat} {a b : World} (h : Stay p g u a b) {q : Nat} (hq : q = p ∨ q = g ∨ q = u) (i : Nat) (v : Value) : Stay p g u a (b.setCell ⟨q, i, none⟩ v) :=
 ⟨h.os, h.tape, h.output, by simpa [World.setCell] using h.size, fun k hk h1 h2 h3 => (Below.heap_setCell b ⟨q, i, none⟩ v k (by show k ≠ q; rcases hq with rfl | rfl | rfl <;> assumption)).trans (h.block k hk h1 h2 h3)⟩
theorem WldAt.tree {p g u : Nat} {F : Nat → ByteArray} {dp : Int} {vt : Value} {s : Nat → Bool} {w : World} (h : WldAt p g u F dp vt s w) (D : Int) (vr : Value) : WldAt p g u F D vr s ((w.setCell ⟨p, 1, none⟩ (.int .i64 D)).setCell ⟨p, 2, none⟩ vr) := by
 have b1 := (h.b.set 1 (.int .i64 D)).set 2 vr;refine ⟨b1, ?_, ?_⟩
 ·exact h.d.eq_block (by simp [World.setCell]) ((Below.heap_setCell _ ⟨p, 2, none⟩ _ g (by show g ≠ p; exact h.ne.1.symm)).trans (Below.heap_setCell _ ⟨p, 1, none⟩ _ g (by show g ≠ p; exact h.ne.1.symm)))
 ·exact h.u.eq_block (by simp [World.setCell]) ((Below.heap_setCell _ ⟨p, 2, none⟩ _ u (by show u ≠ p; exact h.ne.2.1.symm)).trans (Below.heap_setCell _ ⟨p, 1, none⟩ _ u (by show u ≠ p; exact h.ne.2.1.symm)))
theorem wput_any (p g u : Nat) (F : Nat → ByteArray) (dp : Int) (vt : Value) (s : Nat → Bool) (D : Int) (RT : List Ent) (C : List Ch) (FR : List Int) (hC : ∀ c ∈ C, 0 ≤ c.1 ∧ c.1 < 4096) (hFR : ∀ b ∈ FR, 0 ≤ b ∧ b < 4096) (B : Nat) (ra : Option Addr) (rc : Nat) (vc vf : Value) (w : World)
 (h : WldAt p g u F dp vt s w) (hvc : ChgsOwn B vc C w) (hvf : IntsFk B vf FR w) :
 Calls Tryz.prog 36 #[.pointer (some ⟨p, 0, none⟩), setV D (.slice ra RT.length rc) vc vf] w fun e w' => e = .returned (.tuple #[]) ∧ WldAt p g u (putB F C) D (.slice ra RT.length rc) (freeU s FR) w' ∧ Stay p g u w w' := by
 have mixed : Tryz.prog.follows .mixedOrders = true := by kernel_rfl
 have HP0 := Lib.hid (⟨_, _, h.b⟩ : TyAt p 88 w);have HG0 := Lib.hid h.d.t;have HU0 := Lib.hid h.u.t;obtain ⟨ca, cc, rfl, hcc1, hcc2, -⟩ := shape_of hvc;obtain ⟨fa, fc, rfl, hfc1, hfc2, -⟩ := shape_of hvf;have hcc2 : cc ≤ 9223372036854775807 := hcc2;have hfc2 : fc ≤ 9223372036854775807 := hfc2
 have HCE : Hid (∀ W, Stay p g u w W → ∀ i (hi : i < C.length), ∃ gc, ca = some ⟨gc, 0, none⟩ ∧ W.cell? ⟨gc, i * 2, none⟩ = some (.int .i64 C[i].1) ∧ W.cell? ⟨gc, i * 2 + 1, none⟩ = some (.string C[i].2)) := Lib.hid fun W st i hi => by
  have hr := own_stay hvc st HP0.out HG0.out HU0.out (by decide) (by decide) (by decide);obtain ⟨ad, cap, e, q1, q2, q3⟩ := ChgsIn.open (L := C) (w := W) (row_of_own hr)
  cases e
  obtain ⟨ad2, cap2, e2, -, -, s4⟩ := shape_of hr
  cases e2
  obtain ⟨gc, rfl, -⟩ := s4 (by omega);obtain ⟨g1, o1, e3, -, hc⟩ := q3 (by omega)
  cases e3
  refine ⟨gc, rfl, ?_, ?_⟩
  ·have := (hc i hi).1; rwa [Nat.zero_add] at this
  ·have := (hc i hi).2; rwa [Nat.zero_add] at this
 have HFE : Hid (∀ W, Stay p g u w W → ∀ i (hi : i < FR.length), ∃ gc, fa = some ⟨gc, 0, none⟩ ∧ W.cell? ⟨gc, i, none⟩ = some (.int .i64 FR[i])) := Lib.hid fun W st i hi => by
  have hr := own_stay hvf st HP0.out HG0.out HU0.out (by decide) (by decide) (by decide);obtain ⟨ad2, cap2, e2, -, -, s4⟩ := shape_of hr
  cases e2
  obtain ⟨gc, rfl, -⟩ := s4 (by omega);refine ⟨gc, rfl, ?_⟩;rw [hr.cellAt i (by omega), List.getElem?_map, List.getElem?_eq_getElem hi]; rfl
 have HCR : Hid (∀ i (hi : i < C.length), 0 ≤ C[i].1 ∧ C[i].1 < 4096) := Lib.hid fun i hi => hC _ (List.getElem_mem hi);have HFRR : Hid (∀ i (hi : i < FR.length), 0 ≤ FR[i] ∧ FR[i] < 4096) := Lib.hid fun i hi => hFR _ (List.getElem_mem hi);have HPT := Lib.hid fun i (hi : i < C.length) => putB_take F hi;have HFT := Lib.hid fun i (hi : i < FR.length) => freeU_take s hi;have HP00 : Hid (putB F (C.take 0) = F) := Lib.hid rfl;have HPN : Hid (putB F (C.take C.length) = putB F C) := Lib.hid (by rw [List.take_length]);have HF00 : Hid (freeU s (FR.take 0) = s) := Lib.hid rfl;have HFN : Hid (freeU s (FR.take FR.length) = freeU s FR) := Lib.hid (by rw [List.take_length]);have hb0 := balloc1 w (.cells #[.int .i64 D, .slice ra RT.length rc, .slice ca C.length cc, .slice fa FR.length fc] 58);have hk0 := Blk.new #[.int .i64 D, .slice ra RT.length rc, .slice ca C.length cc, .slice fa FR.length fc] 58 w;have hz0 := size_alloc w (.cells #[.int .i64 D, .slice ra RT.length rc, .slice ca C.length cc, .slice fa FR.length fc] 58);obtain ⟨w1, hw1⟩ : ∃ x, w.alloc (.cells #[.int .i64 D, .slice ra RT.length rc, .slice ca C.length cc, .slice fa FR.length fc] 58) = x := ⟨_, rfl⟩;rw [hw1] at hb0 hk0 hz0;have HW1 := Lib.hid hw1;have HX1 := Lib.hid hk0;have HD1 := Lib.hid (h.kept1 hb0);have HS1 := Lib.hid ((Stay.refl p g u w).below hb0);have HLT : Hid (p < w.heap.size ∧ g < w.heap.size ∧ u < w.heap.size) := Lib.hid ⟨h.b.lt, h.d.c.1, h.u.c.1⟩;generalize hX : w.heap.size = X at *;clear h hvc hvf hb0 hk0 hw1 hC hFR hz0
 go_enter Tryz.func36, Tryz.ntmps36
 go_upto_region 1 with fail
 rw [HW1.out]
 try rw [hX]
 go_wp2
 go_loopw [4] (fun q wr => ∃ i : Nat, q = .int .i64 i ∧ i ≤ C.length ∧ Hid (WldAt p g u (putB F (C.take i)) dp vt s wr) ∧ Hid (Blk X #[.int .i64 D, .slice ra RT.length rc, .slice ca C.length cc, .slice fa FR.length fc] 58 wr) ∧ Hid (Stay p g u w wr)) (fun q _ => C.length - (intOf q).toNat)
 case atStart => exact ⟨0, rfl, Nat.zero_le _, Lib.hid (by rw [HP00.out]; exact HD1.out), HX1, HS1⟩
 case round =>
  obtain ⟨i, rfl, hi, HDI, HXI, HSI⟩ := hrel;have x2 := HXI.out.cell 2;simp only [List.getElem?_toArray, List.getElem?_cons_zero, List.getElem?_cons_succ] at x2;by_cases hlt : i < C.length
  ·obtain ⟨gc, rfl, y0, y1⟩ := HCE.out wr HSI.out i hlt
   have hrng := HCR.out i hlt;have HPI := Lib.hid (HPT.out i hlt);obtain ⟨bk, hbk⟩ : ∃ x, C[i].1 = x := ⟨_, rfl⟩;obtain ⟨sk, hsk⟩ : ∃ x, C[i].2 = x := ⟨_, rfl⟩;rw [hbk] at y0 hrng HPI;rw [hsk] at y1 HPI;obtain ⟨n, rfl⟩ := Int.eq_ofNat_of_zero_le hrng.1
   have hn : n < 4096 := by omega
   rw [Int.toNat_natCast] at HPI;have z0 := HDI.out.b.cell 0;simp only [List.getElem?_toArray, List.getElem?_cons_zero, List.getElem?_cons_succ] at z0;have bd : Below wr.heap.size wr wr.drew := (Below.refl _ _).drew;have HDD := Lib.hid (HDI.out.kept1 bd);have HXD := Lib.hid (HXI.out.kept1 bd);have HSD := Lib.hid (HSI.out.below bd);have q1 := (HDD.out.d.c.2 n hn).1;have q2 := (HDD.out.d.c.2 n hn).2;have r1 := (HDI.out.d.c.2 n hn).1;have r2 := (HDI.out.d.c.2 n hn).2
   have hXg : X ≠ g := by have := HLT.out; omega
   clear hbk hsk HCE HFE HCR HFRR HPT HFT bd HDI HXI HSI hrng
   go_upto_region 4 with fail
   go_still_tail 16, (by kernel_rfl)
   change wpList _ _ _ _ _ wr.drew
   generalize wr.drew = wd at *;have HDN : Hid (WldAt p g u (putB F (C.take (i + 1))) dp vt s (wd.setCell ⟨g, n, none⟩ (.string sk))) := Lib.hid (by rw [HPI.out]; exact HDD.out.put hn sk);have HXN := Lib.hid (HXD.out.other (p := ⟨g, n, none⟩) (by show g ≠ X; omega) (.string sk));have HSN := Lib.hid (HSD.out.set (.inr (.inl rfl)) n (.string sk));clear r1 r2;go_wp2;exact ⟨⟨i + 1, by go_num, by omega, HDN, HXN, HSN⟩, by simp [intOf]; omega⟩
  ·obtain rfl : i = C.length := by omega
   obtain ⟨w2, hw2⟩ : ∃ x, x = wr := ⟨_, rfl⟩;subst hw2;have HD2 : Hid (WldAt p g u (putB F C) dp vt s w2) := Lib.hid (by rw [← HPN.out]; exact HDI.out);obtain ⟨F2, hF2⟩ : ∃ x, putB F C = x := ⟨_, rfl⟩;rw [hF2] at HD2;have HF2 := Lib.hid hF2;clear HCE HCR HPT HDI HP00 HPN hlt hi hF2;go_wp2
   go_loopw [5] (fun q wr => ∃ i : Nat, q = .int .i64 i ∧ i ≤ FR.length ∧ Hid (WldAt p g u F2 dp vt (freeU s (FR.take i)) wr) ∧ Hid (Blk X #[.int .i64 D, .slice ra RT.length rc, .slice ca C.length cc, .slice fa FR.length fc] 58 wr) ∧ Hid (Stay p g u w wr)) (fun q _ => FR.length - (intOf q).toNat)
   case atStart => exact ⟨0, rfl, Nat.zero_le _, Lib.hid (by rw [HF00.out]; exact HD2.out), HXI, HSI⟩
   case round =>
    clear x2 HXI HSI;obtain ⟨i, rfl, hi, HDI, HXI, HSI⟩ := hrel;have x3 := HXI.out.cell 3;simp only [List.getElem?_toArray, List.getElem?_cons_zero, List.getElem?_cons_succ] at x3;by_cases hlt : i < FR.length
    ·obtain ⟨gc, rfl, y0⟩ := HFE.out wr HSI.out i hlt
     have hrng := HFRR.out i hlt;have HPI := Lib.hid (HFT.out i hlt);obtain ⟨bk, hbk⟩ : ∃ x, FR[i] = x := ⟨_, rfl⟩;rw [hbk] at y0 hrng HPI;obtain ⟨n, rfl⟩ := Int.eq_ofNat_of_zero_le hrng.1
     have hn : n < 4096 := by omega
     rw [Int.toNat_natCast] at HPI;have z3 := HDI.out.b.cell 3;simp only [List.getElem?_toArray, List.getElem?_cons_zero, List.getElem?_cons_succ] at z3;have bd : Below wr.heap.size wr wr.drew := (Below.refl _ _).drew;have HDD := Lib.hid (HDI.out.kept1 bd);have HXD := Lib.hid (HXI.out.kept1 bd);have HSD := Lib.hid (HSI.out.below bd);have q1 := (HDD.out.u.c.2 n hn).1;have q2 := (HDD.out.u.c.2 n hn).2;have r1 := (HDI.out.u.c.2 n hn).1;have r2 := (HDI.out.u.c.2 n hn).2
     have hXg : X ≠ u := by have := HLT.out; omega
     clear hbk HFE HFRR HFT bd HDI HXI HSI hrng HD2
     go_upto_region 8 with fail
     go_still_tail 9, (by kernel_rfl)
     change wpList _ _ _ _ _ wr.drew
     generalize wr.drew = wd at *;have HDN : Hid (WldAt p g u F2 dp vt (freeU s (FR.take (i + 1))) (wd.setCell ⟨u, n, none⟩ (.bool false))) := Lib.hid (by rw [HPI.out]; exact HDD.out.use hn false);have HXN := Lib.hid (HXD.out.other (p := ⟨u, n, none⟩) (by show u ≠ X; omega) (.bool false));have HSN := Lib.hid (HSD.out.set (.inr (.inr rfl)) n (.bool false));clear r1 r2;go_wp2;exact ⟨⟨i + 1, by go_num, by omega, HDN, HXN, HSN⟩, by simp [intOf]; omega⟩
    ·obtain rfl : i = FR.length := by omega
     obtain ⟨w3, hw3⟩ : ∃ x, x = wr := ⟨_, rfl⟩;subst hw3;have HD3 : Hid (WldAt p g u F2 dp vt (freeU s FR) w3) := Lib.hid (by rw [← HFN.out]; exact HDI.out);have HDE := Lib.hid (HD3.out.tree D (.slice ra RT.length rc));have HSE := Lib.hid ((HSI.out.set (.inl rfl) 1 (.int .i64 D)).set (.inl rfl) 2 (.slice ra RT.length rc));have x0 := HXI.out.cell 0;have x1 := HXI.out.cell 1;have z1 := HD3.out.b.cell 1;have z2 := HD3.out.b.cell 2;have f1 := HD3.out.b.frozen 1;have f2 := HD3.out.b.frozen 2;simp only [List.getElem?_toArray, List.getElem?_cons_zero, List.getElem?_cons_succ] at x0 x1 z1 z2;clear HFE HFRR HFT HDI HF00 HFN hlt hi HD2;go_wp2
     go_end0
     exact ⟨rfl, by rw [HF2.out]; exact HDE.out, HSE.out⟩
open Go.RowKit
theorem lbools_made (n : Nat) (hn : n ≤ 4096) (w : World) :
 (Instr.makeSlice 86 (.int .i64 n) (.int .i64 n)).run Tryz.prog w = .ok (.slice (some ⟨w.heap.size, 0, none⟩) n n) (w.alloc (.cells (madeCells #[.bool false] n) 4)) := by
 have bool_info : (Tryz.prog.info? 4).map (fun i => (i.zero, i.size, i.bytes)) = some (some (.bool false), 1, 1) := by kernel_rfl
 obtain ⟨i, hi, hz, hs, hb⟩ := info_parts bool_info;have h := run_make (P := Tryz.prog) w 86 4 i (.bool false) Tryz.underlying86 hi hz .i64 .i64 n n (by omega) (Int.le_refl _) (by rw [hb]; omega) (by omega)
 simpa [hs, Value.cells] using h
theorem use_made (w : World) : UseAt w.heap.size (fun _ => false) (w.alloc (.cells (madeCells #[.bool false] 4096) 4)) :=
 ⟨CellsAt.alloc_new _ _ _ _ _ fun j hj => made_at _ _ _ hj, ⟨_, _, Blk.new _ _ _⟩⟩
theorem begun_any (w : World) : Calls Tryz.prog 31 #[] w fun e w' => ∃ p g u, e = .returned (.pointer (some ⟨p, 0, none⟩)) ∧ (w.heap.size ≤ p ∧ w.heap.size ≤ g ∧ w.heap.size ≤ u) ∧ WldAt p g u (dskF []) 0 (.slice none 0 0) (fun _ => false) w' ∧ Below w.heap.size w w' := by
 have mixed : Tryz.prog.follows .mixedOrders = true := by kernel_rfl
 have HBL := Lib.hid fun W => lblocks_any [] (by simp) (by simp) 0 (.slice none 0 0) W (RowIn.nil 2 W)
 go_enter Tryz.func31, Tryz.ntmps31
 go_upto_region 1 with fail
 obtain ⟨wq, hwq⟩ : ∃ x, x = w := ⟨_, rfl⟩;subst hwq;have HK : Hid (∀ w9 : World, Below wq.heap.size wq w9 → True) := Lib.hid fun _ _ => trivial;have hq : Below wq.heap.size wq wq.drew := (Below.refl _ _).drew;refine wp_region_held_drew (S := fun _ => True) mixed trivial (fun hHeld => ?_);generalize wq.drew = wd at *;refine tk 0 _ rfl (by intro w9 hSw; clear hSw; go_simp; try with_reducible rfl) hHeld ?_
 try simp only [Act.put, za, zb, zc, zd, ze, zf]
 refine wpAnyH_ready (rs := [1, 2]) (by kernel_rfl) (by simp) ?_;refine AllReadyH.cons (o := _) rfl (fun K hK => ?_) ?_
 ·go_simp
  refine (HBL.out wd).mono ?_; rintro e w2 ⟨g9, rfl, hg2, hd2, b2⟩;dsimp only;have q2 := bnext hq b2;have HG9 := Lib.hid hd2;have HGL := Lib.hid (Nat.le_trans (hq).size hg2);clear hd2 hg2;clear hHeld;refine hK.out _ _ (trivial) (fun hHeld => ?_);clear hK K
  try simp only [Act.put, za, zb, zc, zd, ze, zf]
  refine wpAnyH_ready (rs := [2]) (by kernel_rfl) (by simp) ?_;refine AllReadyH.cons (o := _) rfl (fun K hK => ?_) ?_
  ·have hm3 : (Instr.makeSlice 86 (.int .i64 4096) (.int .i64 4096)).run Tryz.prog w2 = .ok (.slice (some ⟨w2.heap.size, 0, none⟩) 4096 4096) (w2.alloc (.cells (madeCells #[.bool false] 4096) 4)) := lbools_made 4096 (Nat.le_refl _) w2
   have hU3 := use_made w2;obtain ⟨w3, hw3⟩ : ∃ w9, w2.alloc (.cells (madeCells #[.bool false] 4096) 4) = w9 := ⟨_, rfl⟩
   have b3 : Below w2.heap.size w2 w3 := by rw [← hw3]; exact balloc1 _ _
   have q3 := bnext q2 b3;have hle3 : wq.heap.size ≤ w2.heap.size := (q2).size;have HG9 := Lib.hid (HG9.out.kept1 b3);rw [hw3] at hm3 hU3;have HU := Lib.hid hU3;have HUL := Lib.hid hle3;clear hU3 hle3 hw3;go_simp
   try rw [hm3]
   try go_simp
   clear hm3;clear hHeld;refine hK.out _ _ (trivial) (fun hHeld => ?_);clear hK K
   try simp only [Act.put, za, zb, zc, zd, ze, zf]
   refine tk 3 _ rfl (by intro w9 hSw; clear hSw; go_simp; try with_reducible rfl) hHeld ?_
   try simp only [Act.put, za, zb, zc, zd, ze, zf]
   refine wpAnyH_ready (rs := [4]) (by kernel_rfl) (by simp) ?_;refine AllReadyH.cons (o := _) rfl (fun K hK => ?_) ?_
   ·have hle5 : wq.heap.size ≤ w3.heap.size := (q3).size
    have HPL := Lib.hid hle5;clear hle5;obtain ⟨w5, hw5⟩ : ∃ w9, w3.alloc (.cells #[.slice (some ⟨g9, 0, none⟩) 4096 4096, .int .i64 0, .slice none 0 0, .slice (some ⟨w2.heap.size, 0, none⟩) 4096 4096] 88) = w9 := ⟨_, rfl⟩
    have b5 : Below w3.heap.size w3 w5 := by rw [← hw5]; exact balloc1 _ _
    have q5 := bnext q3 b5
    have hz5 : w5.heap.size = w3.heap.size + 1 := by rw [← hw5]; exact size_alloc _ _
    have hB5 : Blk w3.heap.size #[.slice (some ⟨g9, 0, none⟩) 4096 4096, .int .i64 0, .slice none 0 0, .slice (some ⟨w2.heap.size, 0, none⟩) 4096 4096] 88 w5 := by rw [← hw5]; exact Blk.new _ _ _
    have HG9 := Lib.hid (HG9.out.kept1 b5);have HU := Lib.hid (HU.out.kept1 b5);have HPB := Lib.hid hB5;have HZ5 := Lib.hid hz5;have HW5 := Lib.hid hw5;clear hB5 hz5 hw5;go_simp
    try rw [HW5.out]
    clear hHeld;refine hK.out _ _ (trivial) (fun hHeld => ?_);clear hK K
    try simp only [Act.put, za, zb, zc, zd, ze, zf]
    refine tk 5 _ rfl (by intro w9 hSw; clear hSw; go_simp; try with_reducible rfl) hHeld ?_
    try simp only [Act.put, za, zb, zc, zd, ze, zf]
    refine ⟨by kernel_rfl, ?_⟩;clear hHeld;have HQ := Lib.hid (q5);go_wp2;go_ret;exact ⟨_, _, _, rfl, ⟨HPL.out, HGL.out, HUL.out⟩, ⟨HPB.out, HG9.out, HU.out⟩, HQ.out⟩
   exact AllReadyH.nil
  exact AllReadyH.nil
 refine AllReadyH.cons (o := _) rfl (fun K hK => ?_) ?_
 ·have hm7 : (Instr.makeSlice 86 (.int .i64 4096) (.int .i64 4096)).run Tryz.prog wd = .ok (.slice (some ⟨wd.heap.size, 0, none⟩) 4096 4096) (wd.alloc (.cells (madeCells #[.bool false] 4096) 4)) := lbools_made 4096 (Nat.le_refl _) wd
  have hU7 := use_made wd;obtain ⟨w7, hw7⟩ : ∃ w9, wd.alloc (.cells (madeCells #[.bool false] 4096) 4) = w9 := ⟨_, rfl⟩
  have b7 : Below wd.heap.size wd w7 := by rw [← hw7]; exact balloc1 _ _
  have q7 := bnext hq b7;have hle7 : wq.heap.size ≤ wd.heap.size := (hq).size;rw [hw7] at hm7 hU7;have HU := Lib.hid hU7;have HUL := Lib.hid hle7;clear hU7 hle7 hw7;go_simp
  try rw [hm7]
  try go_simp
  clear hm7;clear hHeld;refine hK.out _ _ (trivial) (fun hHeld => ?_);clear hK K
  try simp only [Act.put, za, zb, zc, zd, ze, zf]
  refine wpAnyH_ready (rs := [1]) (by kernel_rfl) (by simp) ?_;refine AllReadyH.cons (o := _) rfl (fun K hK => ?_) ?_
  ·go_simp
   refine (HBL.out w7).mono ?_; rintro e w8 ⟨g9, rfl, hg8, hd8, b8⟩;dsimp only;have q8 := bnext q7 b8;have HU := Lib.hid (HU.out.kept1 b8);have HG9 := Lib.hid hd8;have HGL := Lib.hid (Nat.le_trans (q7).size hg8);clear hd8 hg8;clear hHeld;refine hK.out _ _ (trivial) (fun hHeld => ?_);clear hK K
   try simp only [Act.put, za, zb, zc, zd, ze, zf]
   refine tk 3 _ rfl (by intro w9 hSw; clear hSw; go_simp; try with_reducible rfl) hHeld ?_
   try simp only [Act.put, za, zb, zc, zd, ze, zf]
   refine wpAnyH_ready (rs := [4]) (by kernel_rfl) (by simp) ?_;refine AllReadyH.cons (o := _) rfl (fun K hK => ?_) ?_
   ·have hle10 : wq.heap.size ≤ w8.heap.size := (q8).size
    have HPL := Lib.hid hle10;clear hle10;obtain ⟨w10, hw10⟩ : ∃ w9, w8.alloc (.cells #[.slice (some ⟨g9, 0, none⟩) 4096 4096, .int .i64 0, .slice none 0 0, .slice (some ⟨wd.heap.size, 0, none⟩) 4096 4096] 88) = w9 := ⟨_, rfl⟩
    have b10 : Below w8.heap.size w8 w10 := by rw [← hw10]; exact balloc1 _ _
    have q10 := bnext q8 b10
    have hz10 : w10.heap.size = w8.heap.size + 1 := by rw [← hw10]; exact size_alloc _ _
    have hB10 : Blk w8.heap.size #[.slice (some ⟨g9, 0, none⟩) 4096 4096, .int .i64 0, .slice none 0 0, .slice (some ⟨wd.heap.size, 0, none⟩) 4096 4096] 88 w10 := by rw [← hw10]; exact Blk.new _ _ _
    have HU := Lib.hid (HU.out.kept1 b10);have HG9 := Lib.hid (HG9.out.kept1 b10);have HPB := Lib.hid hB10;have HZ10 := Lib.hid hz10;have HW10 := Lib.hid hw10;clear hB10 hz10 hw10;go_simp
    try rw [HW10.out]
    clear hHeld;refine hK.out _ _ (trivial) (fun hHeld => ?_);clear hK K
    try simp only [Act.put, za, zb, zc, zd, ze, zf]
    refine tk 5 _ rfl (by intro w9 hSw; clear hSw; go_simp; try with_reducible rfl) hHeld ?_
    try simp only [Act.put, za, zb, zc, zd, ze, zf]
    refine ⟨by kernel_rfl, ?_⟩;clear hHeld;have HQ := Lib.hid (q10);go_wp2;go_ret;exact ⟨_, _, _, rfl, ⟨HPL.out, HGL.out, HUL.out⟩, ⟨HPB.out, HG9.out, HU.out⟩, HQ.out⟩
   exact AllReadyH.nil
  exact AllReadyH.nil
 exact AllReadyH.nil
open Go.RowKit
def fstL (n : List Ent) : Int := (eat n 0).log
def UpL (l : List Int) : Prop := l.Pairwise (· < ·)
theorem row_up {leaf : Bool} : ∀ {l : List Ent}, RowOk leaf l → UpL (l.map Ent.log) := fun {l} h => by
 unfold UpL;rw [List.pairwise_map]
 have key : ∀ i j, i < j → j < l.length → (eat l i).log < (eat l j).log := fun i j hij => by
  induction j with
  | zero => omega
  | succ j ih =>
    intro hj;have h1 := (h (j + 1) hj).2 (by omega);unfold After at h1;rw [Nat.add_sub_cancel] at h1;by_cases e : i = j
    ·subst e; exact h1.1
    ·have := ih (by omega) (by omega)
     omega
 rw [List.pairwise_iff_getElem];intro i j hi hj hij;have := key i j hij hj;rwa [eat_eq hi, eat_eq hj] at this
theorem fst_up : ∀ {L : List (List Ent)}, (∀ x ∈ L, 1 ≤ x.length) → UpL (L.flatten.map Ent.log) → UpL (L.map fstL) ∧ ∀ n ∈ L.map fstL, n ∈ L.flatten.map Ent.log
 | [], _, _ => ⟨List.Pairwise.nil, fun n hn => by cases hn⟩
 | x :: L, h1, h => by
   unfold UpL at h;rw [List.flatten_cons, List.map_append, List.pairwise_append] at h;obtain ⟨k1, k2⟩ := fst_up (L := L) (fun y hy => h1 y (List.mem_cons_of_mem _ hy)) h.2.1
   have hx : fstL x ∈ x.map Ent.log := by
    have := h1 x (List.mem_cons_self ..);unfold fstL;rw [eat_eq (by omega)];exact List.mem_map.2 ⟨_, List.getElem_mem _, rfl⟩
   refine ⟨?_, fun n hn => ?_⟩
   ·rw [List.map_cons]
    exact List.pairwise_cons.2 ⟨fun n hn => h.2.2 _ hx _ (k2 n hn), k1⟩
   ·rw [List.map_cons] at hn
    rw [List.flatten_cons, List.map_append];rcases List.mem_cons.1 hn with rfl | hn
    ·exact List.mem_append_left _ hx
    ·exact List.mem_append_right _ (k2 n hn)
def HeadE (e : Ent) : Prop := e.len = 0 ∧ 0 ≤ e.log ∧ e.log ≤ 2047
theorem heads_rowOk {l : List Ent} (h : UpL (l.map Ent.log)) (he : ∀ e ∈ l, HeadE e ∧ 1 ≤ e.phys ∧ e.phys ≤ 4095) : RowOk false l := by
 intro i hi;obtain ⟨⟨h1, h2, h3⟩, h4, h5⟩ := he _ (List.getElem_mem hi);rw [eat_eq hi];refine ⟨by unfold EntOk; simp; omega, fun h0 => ?_⟩;unfold UpL at h;rw [List.pairwise_map, List.pairwise_iff_getElem] at h;have := h (i - 1) i (by omega) hi (by omega);obtain ⟨⟨l1, -, -⟩, -⟩ := he _ (List.getElem_mem (show i - 1 < l.length by omega));unfold After;rw [eat_eq (by omega)];omega
theorem part_row {leaf : Bool} {a b c : List Ent} (h : RowOk leaf (a ++ (b ++ c))) : RowOk leaf b := by
 intro i hi
 have hat : ∀ j, j < b.length → eat (a ++ (b ++ c)) (a.length + j) = eat b j := fun j hj => by
  unfold eat;rw [List.getElem?_append_right (by omega), Nat.add_sub_cancel_left, List.getElem?_append_left hj]
 have h1 := h (a.length + i) (by rw [List.length_append, List.length_append]; omega);rw [hat i hi] at h1;refine ⟨h1.1, fun h0 => ?_⟩;have h2 := h1.2 (by omega);rwa [show a.length + i - 1 = a.length + (i - 1) by omega, hat (i - 1) (by omega)] at h2
theorem flat_row {leaf : Bool} {L : List (List Ent)} (h : RowOk leaf L.flatten) : ∀ x ∈ L, RowOk leaf x := fun x hx => by
 obtain ⟨s, t, rfl⟩ := List.append_of_mem hx;rw [List.flatten_append, List.flatten_cons] at h;exact part_row h
def LogsOk (S : Shp) : Prop := ∀ r, r + 1 < S.length → (rowA S r).map fstL = (headsA S r).map Ent.log
theorem TreeOk.logsOk {S : Shp} (h : TreeOk S) : LogsOk S := h.logs
theorem logs_old {S : Shp} (h : LogsOk S) (r : Nat) : (oldN S r).map fstL = (headsA S r).map Ent.log := by
 unfold oldN;by_cases hr : r + 1 < S.length
 ·rw [if_pos hr]; exact h r hr
 ·rw [if_neg hr]
  unfold headsA; rw [rowA_none (by omega)]; rfl
theorem made_logs (hs : List Ent) (s : Span) (parts : List (List Ent)) : parts.map fstL = (madeA hs s parts).map Ent.log := by
 unfold madeA;rw [List.map_map]
 apply List.ext_getElem (by rw [List.length_map, List.length_map, List.length_range])
 intro i h1 h2;rw [List.length_map] at h1;rw [List.getElem_map, List.getElem_map, List.getElem_range]
 show fstL parts[i] = (eat (nodeAt parts i) 0).log
 rw [nodeAt_eq h1]; rfl
theorem pack_logs {ns : List (List Ent)} {hs l : List Ent} {s : Span} (h : ns.map fstL = hs.map Ent.log) : (packN ns l s).map fstL = (packH hs l s).map Ent.log := by
 unfold packN packH;rw [List.map_append, List.map_append, List.map_append, List.map_append, List.map_take, List.map_drop, h, ← made_logs, List.map_take, List.map_drop]
theorem Stacked.logs {old : Shp} (hl : LogsOk old) {ch : Choose} (hch : ∀ ns l, SpanFl ns l (ch ns l)) {r : Nat} {l : List Ent} {S : Shp} (h : Stacked old ch r l S) : LogsOk S := by
 induction h with
 | top r l h => intro q hq; simp at hq
 | row r l S h k ih =>
   intro q hq
   cases q with
   | zero =>
     have e1 : headsA (packN (oldN old r) l (ch (oldN old r) l) :: S) 0 = packH (headsA old r) l (ch (oldN old r) l) := by
      rw [← k.first hch]; unfold headsA rowA; simp
     have e2 : rowA (packN (oldN old r) l (ch (oldN old r) l) :: S) 0 = packN (oldN old r) l (ch (oldN old r) l) := by unfold rowA; simp
     rw [e1, e2];exact pack_logs (logs_old hl r)
   | succ q =>
     rw [heads_cons, row_cons];exact ih q (by simp at hq; omega)
theorem grow_logs {old : Shp} (hw : WellS old) (hl : LogsOk old) (L : List Ent) : LogsOk (growA old L) := by
 unfold growA;split
 ·exact hl
 ·split
  ·exact (stackA_is hw (ch := spanAll) span_all L).logs hl fl_all
  ·exact (stackA_is hw (ch := unlikeA) span_unlike L).logs hl fl_unlike
theorem packH_zero {hs l : List Ent} {s : Span} (h : ∀ e ∈ hs, e.len = 0) : ∀ e ∈ packH hs l s, e.len = 0 := fun e he => by
 unfold packH at he;rcases List.mem_append.1 he with he | he
 ·exact h e (List.mem_of_mem_take he)
 ·rcases List.mem_append.1 he with he | he
  ·unfold madeA at he
   obtain ⟨k, -, rfl⟩ := List.mem_map.1 he;rfl
  ·exact h e (List.mem_of_mem_drop he)
theorem Stacked.zero {old : Shp} (ho : ∀ r, ∀ e ∈ headsA old r, e.len = 0) {ch : Choose} (hch : ∀ ns l, SpanFl ns l (ch ns l)) {r : Nat} {l : List Ent} {S : Shp} (h : Stacked old ch r l S) : ∀ q, ∀ e ∈ headsA S q, e.len = 0 := by
 induction h with
 | top r l h => intro q e he; unfold headsA rowA at he; simp at he
 | row r l S h k ih =>
   intro q e he
   cases q with
   | zero =>
     have e1 : headsA (packN (oldN old r) l (ch (oldN old r) l) :: S) 0 = packH (headsA old r) l (ch (oldN old r) l) := by
      rw [← k.first hch]; unfold headsA rowA; simp
     rw [e1] at he;exact packH_zero (ho r) e he
   | succ q => rw [heads_cons] at he; exact ih q e he
theorem grow_zero {old : Shp} (hw : WellS old) (ho : ∀ r, ∀ e ∈ headsA old r, e.len = 0) (L : List Ent) : ∀ q, ∀ e ∈ headsA (growA old L) q, e.len = 0 := by
 unfold growA;split
 ·exact ho
 ·split
  ·exact (stackA_is hw (ch := spanAll) span_all L).zero ho fl_all
  ·exact (stackA_is hw (ch := unlikeA) span_unlike L).zero ho fl_unlike
theorem Stacked.root4 {old : Shp} {ch : Choose} (hch : ∀ ns l, SpanFl ns l (ch ns l)) {r : Nat} {l : List Ent} {S : Shp} (h : Stacked old ch r l S) : (rootA S).length ≤ 4 := by
 induction h with
 | top r l h => exact h
 | row r l S h k ih =>
   have hp := k.pos
   have : rootA (packN (oldN old r) l (ch (oldN old r) l) :: S) = rootA S := by
    unfold rootA;rw [show (packN (oldN old r) l (ch (oldN old r) l) :: S).length - 1 = (S.length - 1) + 1 by simp; omega, row_cons]
   rw [this]; exact ih
theorem grow_root4 {old : Shp} (hw : WellS old) (h4 : (rootA old).length ≤ 4) (L : List Ent) : (rootA (growA old L)).length ≤ 4 := by
 unfold growA;split
 ·exact h4
 ·split
  ·exact (stackA_is hw (ch := spanAll) span_all L).root4 fl_all
  ·exact (stackA_is hw (ch := unlikeA) span_unlike L).root4 fl_unlike
theorem Stacked.root1 {old : Shp} (hw : WellS old) {ch : Choose} (hch : ∀ ns l, SpanFl ns l (ch ns l)) {r : Nat} {l : List Ent} {S : Shp} (h : Stacked old ch r l S) : 0 < l.length → 0 < (rootA S).length := by
 induction h with
 | top r l h => exact id
 | row r l S h k ih =>
   intro _;have hp := k.pos
   have : rootA (packN (oldN old r) l (ch (oldN old r) l) :: S) = rootA S := by
    unfold rootA;rw [show (packN (oldN old r) l (ch (oldN old r) l) :: S).length - 1 = (S.length - 1) + 1 by simp; omega, row_cons]
   rw [this];obtain ⟨o1, o2⟩ := hw.old r;have hso := (hch (oldN old r) l).ok;refine ih ?_;rw [packH_len hso o1, ← packN_len hso];have hf := packN_flat (hch (oldN old r) l)
   match hq : packN (oldN old r) l (ch (oldN old r) l) with
   | [] => rw [hq] at hf; rw [← hf] at h; simp at h
   | x :: y => simp
theorem grow_root1 {old : Shp} (hw : WellS old) (h1 : old.length = 1 ∨ 0 < (rootA old).length) (L : List Ent) : (growA old L).length = 1 ∨ 0 < (rootA (growA old L)).length := by
 unfold growA
 have key : ∀ (ch : Choose), (∀ ns l, SpanFl ns l (ch ns l)) → (∀ ns l, SpanOk ns l (ch ns l)) → (stackA old L ch).length = 1 ∨ 0 < (rootA (stackA old L ch)).length := fun ch hf ho => by
  have hs := stackA_is hw (ch := ch) ho L;by_cases h0 : 0 < L.length
  ·exact .inr (hs.root1 hw hf h0)
  ·generalize stackA old L ch = Q at hs ⊢
   cases hs with
   | top => exact .inl rfl
   | row _ _ S h => exact absurd (show L.length ≤ 4 by omega) h
 split
 ·exact h1
 ·split
  ·exact key _ fl_all span_all
  ·exact key _ fl_unlike span_unlike
theorem grow_sizes {old : Shp} (hw : WellS old) (ho : ∀ q, q + 1 < old.length → ∀ x ∈ rowA old q, x.length ≤ 10) (L : List Ent) : ∀ q, q + 1 < (growA old L).length → ∀ x ∈ rowA (growA old L) q, x.length ≤ 10 := by
 unfold growA;split
 ·exact ho
 ·split
  ·exact fun q _ => (stackA_is hw (ch := spanAll) span_all L).sizes ho q
  ·exact fun q _ => (stackA_is hw (ch := unlikeA) span_unlike L).sizes ho q
def llE (e : Ent) : Int × Int := (e.log, e.len)
theorem accL_ll {σ α β γ : Type} (f : σ → α → σ × β) (p : α → γ) (q : β → γ) (h : ∀ s x, q (f s x).2 = p x) : ∀ (l : List α) (s : σ), (accL f s l).2.map q = l.map p
 | [], s => rfl
 | x :: l, s => by rw [accL_cons, List.map_cons, List.map_cons, h, accL_ll f p q h l]
theorem chgS_ll {σ : Type} (f : Chg σ) (h : ∀ s x, llE (f s x).2 = llE x) (s : σ) (S : Shp) : (chgS f s S).2.map (fun n => n.map fun l => l.map llE) = S.map fun n => n.map fun l => l.map llE :=
 accL_ll (chgN f) _ _ (fun s n => accL_ll (accL f) _ _ (fun s l => accL_ll f _ _ h l s) n s) S s
theorem ll_row {S T : Shp} (h : T.map (fun n => n.map fun l => l.map llE) = S.map fun n => n.map fun l => l.map llE) (r : Nat) : (rowA T r).map (fun l => l.map llE) = (rowA S r).map fun l => l.map llE := by
 have := congrArg (fun X : List (List (List (Int × Int))) => (X[r]?).getD []) h;rw [List.getElem?_map, List.getElem?_map] at this;unfold rowA
 cases h1 : T[r]? <;> cases h2 : S[r]? <;> rw [h1, h2] at this <;> simpa using this
theorem ll_logs {a b : List Ent} (h : a.map llE = b.map llE) : a.map Ent.log = b.map Ent.log := by
 have := congrArg (fun X : List (Int × Int) => X.map (·.1)) h;rwa [List.map_map, List.map_map] at this
theorem ll_lens {a b : List Ent} (h : a.map llE = b.map llE) : a.map Ent.len = b.map Ent.len := by
 have := congrArg (fun X : List (Int × Int) => X.map (·.2)) h;rwa [List.map_map, List.map_map] at this
theorem ll_heads {S T : Shp} (h : T.map (fun n => n.map fun l => l.map llE) = S.map fun n => n.map fun l => l.map llE) (r : Nat) : (headsA T r).map llE = (headsA S r).map llE := by
 have := congrArg List.flatten (ll_row h (r + 1));unfold headsA;rw [List.map_flatten, List.map_flatten]; exact this
theorem ll_fst {a b : List (List Ent)} (h : a.map (fun l => l.map llE) = b.map fun l => l.map llE) : a.map fstL = b.map fstL := by
 apply List.ext_getElem (by have := congrArg List.length h; simpa using this)
 intro i h1 h2;rw [List.length_map] at h1 h2;rw [List.getElem_map, List.getElem_map];have := congrArg (fun X : List (List (Int × Int)) => (X[i]?).getD []) h;rw [List.getElem?_map, List.getElem?_map, List.getElem?_eq_getElem h1, List.getElem?_eq_getElem h2] at this;have this : (a[i]).map llE = (b[i]).map llE := this;unfold fstL eat;have k := congrArg (fun X : List (Int × Int) => X[0]?) this;rw [List.getElem?_map, List.getElem?_map] at k
 cases h3 : (a[i])[0]? with
 | none => cases h4 : (b[i])[0]? with
   | none => rfl
   | some y => rw [h3, h4] at k; cases k
 | some x => cases h4 : (b[i])[0]? with
   | none => rw [h3, h4] at k; cases k
   | some y =>
     rw [h3, h4] at k;have k : some (llE x) = some (llE y) := k
     injection k with k
     exact congrArg Prod.fst k
theorem tree_placed {N T : Shp} (hw : WellS N) (hl : LogsOk N) (hz : ∀ q, ∀ e ∈ headsA N q, e.len = 0) (hs : ∀ q, q + 1 < N.length → ∀ x ∈ rowA N q, x.length ≤ 10) (hr4 : (rootA N).length ≤ 4) (hne : N.length = 1 ∨ 0 < (rootA N).length) (hd : N.length ≤ 5)
 (hT : T.map (fun n => n.map fun l => l.map llE) = N.map fun n => n.map fun l => l.map llE) (hlist : RowOk true (listA T)) (hfree : hitA (listA T) (numsA T) = false) (hnd : (numsA T).Nodup) (hp : ∀ b ∈ numsA T, 1 ≤ b ∧ b ≤ 4095) : TreeOk T := by
 have hlen : T.length = N.length := by have := congrArg List.length hT; simpa using this
 have hrl : ∀ q, (rowA T q).length = (rowA N q).length := fun q => by have := congrArg List.length (ll_row hT q); simpa using this
 have hhl : ∀ q, (headsA T q).length = (headsA N q).length := fun q => by have := congrArg List.length (ll_heads hT q); simpa using this
 have hmem : ∀ q, ∀ x ∈ rowA T q, ∃ y ∈ rowA N q, x.length = y.length := fun q x hx => by
  obtain ⟨i, hi, rfl⟩ := List.mem_iff_getElem.1 hx
  have hi2 : i < (rowA N q).length := by rw [← hrl]; exact hi
  refine ⟨_, List.getElem_mem hi2, ?_⟩;have := congrArg (fun X : List (List (Int × Int)) => ((X[i]?).getD []).length) (ll_row hT q);rw [List.getElem?_map, List.getElem?_map, List.getElem?_eq_getElem hi, List.getElem?_eq_getElem hi2] at this
  simpa using this
 have hwT : WellS T := by
  refine ⟨by rw [hlen]; exact hw.pos, fun r hr => ?_, fun r hr x hx => ?_, ?_⟩
  ·rw [hhl, hrl]; exact hw.heads r (by omega)
  ·obtain ⟨y, hy, e⟩ := hmem r x hx
   rw [e]; exact hw.some r (by omega) y hy
  ·rw [hlen, hrl]; exact hw.root
 have hlT : LogsOk T := fun r hr => by rw [ll_fst (ll_row hT r), ll_logs (ll_heads hT r)]; exact hl r (by omega)
 have hzT : ∀ q, ∀ e ∈ headsA T q, e.len = 0 := fun q e he => by
  obtain ⟨i, hi, rfl⟩ := List.mem_iff_getElem.1 he
  have hi2 : i < (headsA N q).length := by rw [← hhl]; exact hi
  have := congrArg (fun X : List Int => X[i]?) (ll_lens (ll_heads hT q));rw [List.getElem?_map, List.getElem?_map, List.getElem?_eq_getElem hi, List.getElem?_eq_getElem hi2] at this;have this : some (headsA T q)[i].len = some (headsA N q)[i].len := this
  injection this with this
  rw [this]; exact hz q _ (List.getElem_mem hi2)
 have hphys : ∀ q, ∀ e ∈ headsA T q, 1 ≤ e.phys ∧ e.phys ≤ 4095 := fun q e he => by
  have hq := heads_lt he;refine hp _ ?_;unfold numsA;exact List.mem_flatMap.2 ⟨q, List.mem_range.2 (by omega), List.mem_map.2 ⟨e, he, rfl⟩⟩
 have hup : ∀ q, q + 1 < T.length → UpL ((headsA T q).map Ent.log) ∧ ∀ e ∈ headsA T q, 0 ≤ e.log ∧ e.log ≤ 2047 := fun q => by
  induction q with
  | zero =>
    intro hq;have h0 := row_up hlist
    have hb : ∀ n ∈ (listA T).map Ent.log, 0 ≤ n ∧ n ≤ 2047 := fun n hn => by
     obtain ⟨e, he, rfl⟩ := List.mem_map.1 hn;have := (entT e).1 (((row_rise _).1 hlist).mem e he).1;omega
    obtain ⟨k1, k2⟩ := fst_up (L := rowA T 0) (hwT.some 0 hq) h0;rw [← hlT 0 hq];refine ⟨k1, fun e he => ?_⟩
    have hm : e.log ∈ (rowA T 0).map fstL := by rw [hlT 0 hq]; exact List.mem_map.2 ⟨e, he, rfl⟩
    exact hb _ (k2 _ hm)
  | succ q ih =>
    intro hq;obtain ⟨i1, i2⟩ := ih (by omega);obtain ⟨k1, k2⟩ := fst_up (L := rowA T (q + 1)) (hwT.some (q + 1) hq) i1;rw [← hlT (q + 1) hq];refine ⟨k1, fun e he => ?_⟩
    have hm : e.log ∈ (rowA T (q + 1)).map fstL := by rw [hlT (q + 1) hq]; exact List.mem_map.2 ⟨e, he, rfl⟩
    obtain ⟨e', he', ee⟩ := List.mem_map.1 (k2 _ hm);rw [← ee]; exact i2 e' he'
 have hrows : ∀ q, q + 1 < T.length → RowOk false (headsA T q) := fun q hq => heads_rowOk (hup q hq).1 fun e he => ⟨⟨hzT q e he, (hup q hq).2 e he⟩, hphys q e he⟩
 have hnode : ∀ r, ∀ x ∈ rowA T r, RowOk (r == 0) x := fun r x hx => by
  cases r with
  | zero => exact flat_row hlist x hx
  | succ r =>
    have e : ((r + 1 == 0) : Bool) = false := by simp
    rw [e];by_cases hr : r + 1 < T.length
    ·exact flat_row (L := rowA T (r + 1)) (hrows r hr) x hx
    ·rw [rowA_none (by omega)] at hx; cases hx
 refine ⟨⟨hwT, hlist, hfree, hnd, fun r hr x hx => ?_⟩, hlT, ?_⟩
 ·obtain ⟨y, hy, e⟩ := hmem r x hx
  exact ⟨hwT.some r hr x hx, by rw [e]; exact hs r (by omega) y hy, hnode r x hx⟩
 ·have hroot := root_row hwT
  have hrn : (rootA T).length = (rootA N).length := by
   have h1 := root_row hw;have h2 := ll_row hT (T.length - 1);rw [hroot] at h2;rw [show T.length - 1 = N.length - 1 by omega, h1] at h2;have := congrArg (fun X : List (List (Int × Int)) => ((X[0]?).getD []).length) h2
   simpa using this
  unfold RootedA;rw [ok_kindN (by show (1 : Int) ≠ 0; decide)];unfold Full;have hrow := hnode (T.length - 1) (rootA T) (by rw [hroot]; simp)
  have e : ((T.length - 1 == 0) : Bool) = decide (((T.length - 1 : Nat) : Int) = 0) := by
   by_cases q : T.length - 1 = 0
   ·rw [q]; rfl
   ·rw [decide_eq_false (by omega)]; simpa using q
  rw [e] at hrow;refine ⟨.inl rfl, ⟨by show (0 : Int) ≤ 0; omega, by show (0 : Int) ≤ 100; omega⟩, ⟨by show (0 : Int) ≤ 0; omega, by show (0 : Int) ≤ 262144; omega⟩, ⟨by show (0 : Int) ≤ ((T.length - 1 : Nat) : Int); omega, by show ((T.length - 1 : Nat) : Int) ≤ 4; omega⟩, by show (rootA T).length ≤ 4; omega, hrow, ?_⟩;by_cases q : T.length - 1 = 0
  ·left; show ((T.length - 1 : Nat) : Int) = 0; omega
  ·right
   show 0 < (rootA T).length
   have := hne.resolve_left (by omega);omega
end Go.Proofs.YtknefoemgifbfaaGreat
