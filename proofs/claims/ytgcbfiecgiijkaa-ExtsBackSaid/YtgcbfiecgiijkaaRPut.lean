/- The document's put. -/
import Derived.Test.YtgcbfiecgiijkaaRRef
namespace Go.Proofs.Ytgcbfiecgiijkaa
set_option linter.unusedVariables false
open Go.RowKit Go.Shelf

/-- one run after the other: what is ahead, the run, what is behind -/
def putGo (l : List (Int × Int)) (A : List (Int × Int)) (x : Int × Int) (B : List (Int × Int)) : List (Int × Int) :=
  match l with
  | [] => A ++ [x] ++ B
  | y :: l => if y.1 + y.2 < x.1 then putGo l (A ++ [y]) x B else if x.1 + x.2 < y.1 then putGo l A x (B ++ [y]) else putGo l A (joinR x y) B
theorem putGo_behind : ∀ {e : Int} (l A : List (Int × Int)) (x : Int × Int) (B : List (Int × Int)), Norm e l → okR x → x.1 + x.2 ≤ e → putGo l A x B = A ++ [x] ++ (B ++ l)
  | _, [], A, x, B, _, _, _ => by simp [putGo]
  | e, y :: l, A, x, B, .cons a b c, hx, h => by
    have h1 := hx.2.1
    have h2 := b.2.1
    unfold putGo
    rw [if_neg (by omega), if_pos (by omega), putGo_behind l A x (B ++ [y]) c hx (by omega)]
    simp
theorem putGo_is : ∀ {e : Int} (l A : List (Int × Int)) (x : Int × Int), Norm e l → okR x → putGo l A x [] = A ++ putR l x
  | _, [], A, x, _, _ => by simp [putGo, putR]
  | e, y :: l, A, x, .cons a b c, hx => by
    unfold putGo putR
    by_cases h1 : y.1 + y.2 < x.1
    · rw [if_pos h1, if_pos h1, putGo_is l (A ++ [y]) x c hx]; simp
    · rw [if_neg h1, if_neg h1]
      by_cases h2 : x.1 + x.2 < y.1
      · rw [if_pos h2, if_pos h2, List.nil_append, putGo_behind l A x [y] c hx (by have := b.2.1; omega)]; simp
      · rw [if_neg h2, if_neg h2, putGo_is l A (joinR x y) c (join_ok hx b)]

theorem two_set {w : World} {b : Nat} {u v s t : Value} {e : TypeId} (h : w.heap[b]? = some (.cells #[u, v] e (0, 0))) : ((w.setCell ⟨b, 0, none⟩ s).setCell ⟨b, 1, none⟩ t).heap[b]? = some (.cells #[s, t] e (0, 0)) := by
  unfold World.setCell
  simp [Array.getElem?_modify, h]
theorem cell_two {w : World} {b : Nat} {u v : Value} {t : TypeId} (h : w.heap[b]? = some (.cells #[u, v] t (0, 0))) : w.cell? ⟨b, 0, none⟩ = some u ∧ w.cell? ⟨b, 1, none⟩ = some v ∧ w.frozen? ⟨b, 0, none⟩ = false ∧ w.frozen? ⟨b, 1, none⟩ = false := by
  simp [World.cell?, World.frozen?, h]

/-- what lies in put's memory -/
structure PutMem (w0 : World) (x : Int × Int) (va vb : Value) (A B : List (Int × Int)) (w : World) : Prop where
  below : Below w0.heap.size w0 w
  box : w.heap[w0.heap.size]? = some (.cells #[.int .i64 x.1, .int .i64 x.2] 32 (0, 0))
  ra : RunsAt (w0.heap.size + 1) va A w
  rb : RunsAt (w0.heap.size + 1) vb B w
  apart : ∀ g, va.ownBlock = some g → vb.ownBlock ≠ some g
theorem PutMem.lt {w0 w : World} {x : Int × Int} {va vb : Value} {A B : List (Int × Int)} (h : PutMem w0 x va vb A B w) : w0.heap.size + 1 ≤ w.heap.size := by
  have := lt_of_block h.box; omega
theorem PutMem.alloc {w0 w : World} {x : Int × Int} {va vb : Value} {A B : List (Int × Int)} (h : PutMem w0 x va vb A B w) (o : Obj) : PutMem w0 x va vb A B (w.alloc o) :=
  ⟨h.below.alloc h.below.size o, (heap_alloc_old _ _ (lt_of_block h.box)).trans h.box, h.ra.alloc o, h.rb.alloc o, h.apart⟩
theorem kept_of {w w' : World} {B : Nat} {v u : Value} {l : List (Int × Int)} (h : RunsAt B v l w) (hg : w.grownBy w' u.ownBlock) (hne : ∀ g, u.ownBlock = some g → v.ownBlock ≠ some g) : RunsAt B v l w' := by
  refine h.kept hg ?_
  cases hv : v.ownBlock with
  | none => exact .inl rfl
  | some g => exact .inr fun e => hne g e.symm hv
theorem PutMem.ahead {w0 w w' : World} {x : Int × Int} {va vb v' : Value} {A B A' : List (Int × Int)} (h : PutMem w0 x va vb A B w) (hr : RunsAt (w0.heap.size + 1) v' A' w') (hg : w.grownBy w' va.ownBlock)
    (hat : v'.ownBlock = va.ownBlock ∨ v'.ownBlock = some w.heap.size) : PutMem w0 x v' vb A' B w' := by
  have hlt := h.lt
  refine ⟨h.below.grown hg h.below.size fun k hk => by have := (h.ra.lt k hk).1; omega, ?_, hr, kept_of h.rb hg h.apart, fun g hv hb => ?_⟩
  · refine (hg.block _ (lt_of_block h.box) fun e => ?_).trans h.box
    have := (h.ra.lt _ e.symm).1; omega
  · rcases hat with hat | hat
    · exact h.apart g (hat.symm.trans hv) hb
    · rw [hat] at hv; cases hv
      have := (h.rb.lt _ hb).2; omega
theorem PutMem.behind {w0 w w' : World} {x : Int × Int} {va vb v' : Value} {A B B' : List (Int × Int)} (h : PutMem w0 x va vb A B w) (hr : RunsAt (w0.heap.size + 1) v' B' w') (hg : w.grownBy w' vb.ownBlock)
    (hat : v'.ownBlock = vb.ownBlock ∨ v'.ownBlock = some w.heap.size) : PutMem w0 x va v' A B' w' := by
  have hlt := h.lt
  refine ⟨h.below.grown hg h.below.size fun k hk => by have := (h.rb.lt k hk).1; omega, ?_, kept_of h.ra hg (fun g hb hv => h.apart g hv hb), hr, fun g hv hb => ?_⟩
  · refine (hg.block _ (lt_of_block h.box) fun e => ?_).trans h.box
    have := (h.rb.lt _ e.symm).1; omega
  · rcases hat with hat | hat
    · exact h.apart g hv (hat.symm.trans hb)
    · rw [hat] at hb; cases hb
      have := (h.ra.lt _ hv).2; omega
theorem PutMem.set {w0 w : World} {x : Int × Int} {va vb : Value} {A B : List (Int × Int)} (h : PutMem w0 x va vb A B w) (s t : Int) :
    PutMem w0 (s, t) va vb A B ((w.setCell ⟨w0.heap.size, 0, none⟩ (.int .i64 s)).setCell ⟨w0.heap.size, 1, none⟩ (.int .i64 t)) :=
  ⟨(h.below.setCell (Nat.le_refl _) _).setCell (Nat.le_refl _) _, two_set h.box,
    ownsRow_setCell_below (ownsRow_setCell_below h.ra (a := ⟨w0.heap.size, 0, none⟩) (Nat.lt_succ_self _) _) (a := ⟨w0.heap.size, 1, none⟩) (Nat.lt_succ_self _) _,
    ownsRow_setCell_below (ownsRow_setCell_below h.rb (a := ⟨w0.heap.size, 0, none⟩) (Nat.lt_succ_self _) _) (a := ⟨w0.heap.size, 1, none⟩) (Nat.lt_succ_self _) _, h.apart⟩
theorem wpList_appat {ops : Array Oper} {rest : List Oper} {o : Oper} {a : Act} {Q : Exit → Act → World → Prop} {w : World} (hgd : o.guard = none) (s x : Operand)
    (ho : o.op = .call { callee := .builtin .append, args := #[s, x], argTypes := #[26, 26] })
    (base : Nat) (v : Value) (l : List (Int × Int)) (hs : a.eval s = v) (hown : RunsAt base v l w)
    (ad : Addr) (c : Nat) (r : Int × Int) (hx : a.eval x = .slice (some ad) 1 c) (hnews : ∀ j u, (cellsR [r])[j]? = some u → w.cell? (ad.add j) = some u)
    (hlen : l.length ≤ 3000000) (hbase : base ≤ w.heap.size)
    (h : ∀ v' w', RunsAt base v' (l ++ [r]) w' → w.grownBy w' v.ownBlock → (v'.ownBlock = v.ownBlock ∨ v'.ownBlock = some w.heap.size) → wpList Try.prog ops Q rest (a.put o.dst v') w') : wpList Try.prog ops Q (o :: rest) a w := by
  obtain ⟨i0, hi, hz0, hz1, hz2⟩ := info_parts info_run
  refine wpList_append_own_at w hgd s x 26 ho base 32 i0 (.agg #[.int .i64 0, .int .i64 0]) 2 16 Try.underlying26 hi hz0 hz1 hz2 rfl (by decide) v _ _ hs hown ad 1 c (cellsR [r]) hx rfl hnews (one_cells _ _) (by unfold maxLen; omega) (by omega) hbase ?_
  intro v' w' h1 h2 _ h3
  refine h v' w' ?_ h2 h3
  show w'.ownsRow _ _ _ _ (l ++ [r]).length (cellsR (l ++ [r]))
  rw [List.length_append, cellsR_append]; exact h1

set_option maxRecDepth 100000 in
set_option maxHeartbeats 8000000 in
theorem put_any (l : List (Int × Int)) (hn : Norm (-1) l) (hl : l.length ≤ 1000) (x1 x2 : Int) (hx : okR (x1, x2)) (v : Value) (w : World) (hv : RunsIn v l w) :
    Calls Try.prog 58 #[v, .agg #[.int .i64 x1, .int .i64 x2]] w fun e w' => ∃ v', e = .returned v' ∧ RunsAt w.heap.size v' (putR l (x1, x2)) w' ∧ Below w.heap.size w w' := by
  have hokl : ∀ r ∈ l, okR r := fun r hr => (hn.mem r hr).1
  have HP : Hid (putGo l [] (x1, x2) [] = putR l (x1, x2)) := Lib.hid (by rw [putGo_is l [] _ hn hx]; rfl)
  generalize putR l (x1, x2) = R at *
  have M0 : PutMem w (x1, x2) (.slice none 0 0) (.slice none 0 0) [] [] (w.alloc (.cells #[.int .i64 x1, .int .i64 x2] 32)) :=
    ⟨balloc1 _ _, heap_alloc_new _ _, World.ownsRow_nil _ _ _ _, World.ownsRow_nil _ _ _ _, fun g h => by cases h⟩
  obtain ⟨ad, cap, rfl, h1, h2, h3, -⟩ := id hv
  have h2 : cap ≤ 9223372036854775807 := h2
  clear hv hn
  go_enter Try.func58, Try.ntmps58
  go_wp2
  go_loopw [5, 6, 7] (fun va vb p wr => ∃ (k : Nat) (A B : List (Int × Int)) (s t : Int), p = .int .i64 k ∧ k ≤ l.length ∧ A.length + B.length ≤ k ∧ okR (s, t) ∧ Hid (putGo (l.drop k) A (s, t) B = R) ∧ PutMem w (s, t) va vb A B wr) (fun _ _ p _ => l.length - (intOf p).toNat)
  case atStart => exact ⟨0, [], [], x1, x2, rfl, Nat.zero_le _, Nat.le_refl _, hx, HP, M0⟩
  case round =>
    obtain ⟨k, A, B, s, t, rfl, hk, hAB, hst, HR, M⟩ := hrel
    clear M0 hx HP
    by_cases hlt : k < l.length
    · obtain ⟨g, o, rfl, hg, hc⟩ := h3 (by omega)
      obtain ⟨c1, c2⟩ := hc k hlt
      have c1 := (M.below.cell (p := ⟨g, o + k * 2, none⟩) hg).trans c1
      have c2 := (M.below.cell (p := ⟨g, o + k * 2 + 1, none⟩) hg).trans c2
      have hoky : okR (l[k].1, l[k].2) := hokl _ (List.getElem_mem hlt)
      have hd : l.drop k = (l[k].1, l[k].2) :: l.drop (k + 1) := List.drop_eq_getElem_cons hlt
      rw [hd] at HR
      generalize l[k].1 = y1 at *
      generalize l[k].2 = y2 at *
      have MQ := M.alloc (.cells #[.int .i64 y1, .int .i64 y2] 32)
      have hltq := M.lt
      obtain ⟨(hs1 : 0 ≤ s), (hs2 : 1 ≤ t), (hs3 : s + t ≤ 9223372036854775807)⟩ := id hst
      obtain ⟨(hy1 : 0 ≤ y1), (hy2 : 1 ≤ y2), (hy3 : y1 + y2 ≤ 9223372036854775807)⟩ := id hoky
      obtain ⟨z1, z2, z3, z4⟩ := cell_two M.box
      clear hc h3 hd hokl
      by_cases hA : y1 + y2 < s
      · have HR2 : Hid (putGo (l.drop (k + 1)) (A ++ [(y1, y2)]) (s, t) B = R) := Lib.hid (by have := HR.out; unfold putGo at this; rwa [if_pos hA] at this)
        have f1 := cell_old (a := ⟨w.heap.size, 0, none⟩) hltq z1 (.cells #[.int .i64 y1, .int .i64 y2] 32)
        have f2 := cell_old (a := ⟨w.heap.size, 1, none⟩) hltq z2 (.cells #[.int .i64 y1, .int .i64 y2] 32)
        have dA : decide (y1 + y2 < s) = true := decide_eq_true hA
        clear HR hoky z1 z2 z3 z4
        go_wp2_with (at_builtin; refine wpList_appat rfl _ _ rfl (w.heap.size + 1) _ A rfl (MQ.ra.alloc _) ⟨wr.heap.size + 1, 0, none⟩ 1 (y1, y2) rfl (by have h := new_cells1 (wr.alloc (.cells #[.int .i64 y1, .int .i64 y2] 32)) y1 y2; rwa [size_alloc] at h) (by omega) (by rw [size_alloc, size_alloc]; omega) ?_)
        intro v' w3 hr hg hat
        have M3 := (MQ.alloc _).ahead hr hg (by first | exact hat | (rw [size_alloc, size_alloc]; exact hat))
        clear hr hg hat MQ M f1 f2
        go_wp2
        exact ⟨⟨k + 1, A ++ [(y1, y2)], B, s, t, by go_num, by omega, by simp; omega, hst, HR2, M3⟩, by simp [intOf]; omega⟩
      · by_cases hB : s + t < y1
        · have HR2 : Hid (putGo (l.drop (k + 1)) A (s, t) (B ++ [(y1, y2)]) = R) := Lib.hid (by have := HR.out; unfold putGo at this; rwa [if_neg hA, if_pos hB] at this)
          have f1 := cell_old (a := ⟨w.heap.size, 0, none⟩) hltq z1 (.cells #[.int .i64 y1, .int .i64 y2] 32)
          have f2 := cell_old (a := ⟨w.heap.size, 1, none⟩) hltq z2 (.cells #[.int .i64 y1, .int .i64 y2] 32)
          have dA : decide (y1 + y2 < s) = false := decide_eq_false hA
          have dB : decide (s + t < y1) = true := decide_eq_true hB
          clear HR hoky z1 z2 z3 z4 hA
          go_wp2_with (at_builtin; refine wpList_appat rfl _ _ rfl (w.heap.size + 1) _ B rfl (MQ.rb.alloc _) ⟨wr.heap.size + 1, 0, none⟩ 1 (y1, y2) rfl (by have h := new_cells1 (wr.alloc (.cells #[.int .i64 y1, .int .i64 y2] 32)) y1 y2; rwa [size_alloc] at h) (by omega) (by rw [size_alloc, size_alloc]; omega) ?_)
          intro v' w3 hr hg hat
          have M3 := (MQ.alloc _).behind hr hg (by first | exact hat | (rw [size_alloc, size_alloc]; exact hat))
          clear hr hg hat MQ M f1 f2
          go_wp2
          exact ⟨⟨k + 1, A, B ++ [(y1, y2)], s, t, by go_num, by omega, by simp; omega, hst, HR2, M3⟩, by simp [intOf]; omega⟩
        · have HR2 : Hid (putGo (l.drop (k + 1)) A (joinR (s, t) (y1, y2)) B = R) := Lib.hid (by have := HR.out; unfold putGo at this; rwa [if_neg hA, if_neg hB] at this)
          have hj := join_ok hst hoky
          obtain ⟨mn, hmn⟩ : ∃ mn, min s y1 = mn := ⟨_, rfl⟩
          obtain ⟨mx, hmx⟩ : ∃ mx, max (s + t) (y1 + y2) = mx := ⟨_, rfl⟩
          have m1 : (if s < y1 then s else y1) = mn := by rw [← hmn]; split <;> omega
          have m2 : (if y1 < s then y1 else s) = mn := by rw [← hmn]; split <;> omega
          have m3 : (if s + t < y1 + y2 then y1 + y2 else s + t) = mx := by rw [← hmx]; split <;> omega
          have HJ : joinR (s, t) (y1, y2) = (mn, mx - mn) := by rw [← hmn, ← hmx]; rfl
          rw [HJ] at HR2 hj
          have dA : decide (y1 + y2 < s) = false := decide_eq_false hA
          have dB : decide (s + t < y1) = false := decide_eq_false hB
          have b1 : 0 ≤ mn := by omega
          have b2 : mn ≤ 9223372036854775807 := by omega
          have b3 : mx ≤ 9223372036854775807 := by omega
          have b4 : mn ≤ mx := by omega
          have n1 : w.heap.size ≠ wr.heap.size := by omega
          have n2 : wr.heap.size ≠ w.heap.size := by omega
          have HJ2 := Lib.hid hj
          obtain ⟨g1, g2⟩ := two_old (Below.refl (wr.heap.size + 1) (wr.alloc (.cells #[.int .i64 y1, .int .i64 y2] 32)))
          obtain ⟨wq, hwq⟩ : ∃ wq, wr.alloc (.cells #[.int .i64 y1, .int .i64 y2] 32) = wq := ⟨_, rfl⟩
          rw [hwq] at MQ g1 g2
          clear z1 z2 z3 z4
          obtain ⟨z1, z2, z3, z4⟩ := cell_two MQ.box
          have M3 := Lib.hid (MQ.set mn (mx - mn))
          clear HR hoky MQ M hst hj HJ hA hB
          go_wp2
          exact ⟨⟨k + 1, A, B, mn, mx - mn, by go_num, by omega, by omega, HJ2.out, HR2, M3.out⟩, by simp [intOf]; omega⟩
    · obtain rfl : k = l.length := by omega
      have HE : Hid (A ++ [(s, t)] ++ B = R) := Lib.hid (by have := HR.out; rwa [List.drop_length] at this)
      obtain ⟨z1, z2, z3, z4⟩ := cell_two M.box
      have hltq := M.lt
      have M2 := M.alloc (.cells #[.int .i64 s, .int .i64 t] 32)
      clear h3 hokl
      go_wp2_with (at_builtin; refine wpList_appat rfl _ _ rfl (w.heap.size + 1) _ A rfl M2.ra ⟨wr.heap.size, 0, none⟩ 1 (s, t) rfl (new_cells1 _ _ _) (by omega) (by rw [size_alloc]; omega) ?_)
      intro v' w3 hr hg hat
      have M3 := M2.ahead hr hg (by first | exact hat | (rw [size_alloc]; exact hat))
      have hlt3 := M3.lt
      clear hr hg hat M2 M z1 z2 z3 z4
      go_wp2_with (at_builtin; refine wpList_appv rfl _ _ rfl (w.heap.size + 1) _ (A ++ [(s, t)]) rfl M3.ra _ B rfl (runsAt_in M3.rb) (by simp; omega) hlt3 ?_)
      intro v4 w4 h4 h5
      have hb := M3.below.trans (h5.mono (Nat.le_succ _))
      have h4 : RunsAt (w.heap.size + 1) v4 (A ++ [(s, t)] ++ B) w4 := by simpa using h4
      rw [HE.out] at h4
      clear M3 h5
      go_wp2
      go_ret
      exact ⟨_, rfl, row_down (Nat.le_succ _) h4, hb⟩
end Go.Proofs.Ytgcbfiecgiijkaa
