/- Steps of a law's loop over acts: what a Run keeps. -/
import Derived.Test.YtehjobjjlldckaaGreatCAlive
namespace Go.Proofs.YtehjobjjlldckaaGreat
set_option linter.unusedVariables false
open Go.RowKit

theorem CacheAt.turn {c d lo hi U : Nat} {M N : Nat → Prop} {C : CS} {w w' : World} (h : CacheAt c d lo hi M U C w) (t : Turn N w w') (h1 : ∀ k, N k → ¬ M k) (h2 : ∀ k, N k → ¬ (lo ≤ k ∧ k < hi)) : CacheAt c d lo hi M U C w' := by
  obtain ⟨m, o, uses, A, V, G, h, hu, rfl⟩ := h
  exact ⟨m, o, uses, A, V, G, h.turn t h1 h2, hu, rfl⟩
/-- a block that a call may not have turned -/
structure Free (B hi : Nat) (M : Nat → Prop) (g : Nat) (w : World) : Prop where
  lt : g < w.heap.size
  m : ¬ M g
  z : ¬ (B ≤ g ∧ g < hi)
theorem Run.fresh {c d B hi U : Nat} {M : Nat → Prop} {C : CS} {w0 w : World} (h : Run c d B hi M U C w0 w) (o : Obj) : Free B hi M w.heap.size (w.alloc o) :=
  ⟨by rw [size_alloc]; omega, fun hm => by have := h.cache.lt hm; omega, by have := h.dev.top; omega⟩
theorem Free.kept1 {B hi g : Nat} {M : Nat → Prop} {w w' : World} (h : Free B hi M g w) (b : Below w.heap.size w w') : Free B hi M g w' := ⟨Nat.lt_of_lt_of_le h.lt b.size, h.m, h.z⟩
theorem Run.store {c d B hi U : Nat} {M : Nat → Prop} {C : CS} {w0 w : World} (h : Run c d B hi M U C w0 w) {g : Nat} (hf : Free B hi M g w) (hB : B ≤ g) (j : Nat) (v : Value) : Run c d B hi M U C w0 (w.setCell ⟨g, j, none⟩ v) := by
  have t : Turn (fun k => k = g) w (w.setCell ⟨g, j, none⟩ v) := (Turn.refl (fun k => k = g) w).set (p := ⟨g, j, none⟩) rfl _
  exact ⟨h.cache.turn t (fun k hk => by rw [hk]; exact hf.m) (fun k hk => by rw [hk]; exact hf.z), h.below.setCell hB _, h.young⟩
theorem Free.set {B hi g : Nat} {M : Nat → Prop} {w : World} (h : Free B hi M g w) (p : Addr) (v : Value) : Free B hi M g (w.setCell p v) := ⟨by rw [size_set]; exact h.lt, h.m, h.z⟩
/-- what a call leaves of the blocks that are free -/
def Frees (B hi : Nat) (M M' : Nat → Prop) (w w' : World) : Prop := ∀ g, Free B hi M g w → w'.heap[g]? = w.heap[g]? ∧ Free B hi M' g w'
theorem Went.frees {lo hi : Nat} {M M' : Nat → Prop} {w a : World} (h : Went lo hi M M' w a) : Frees lo hi M M' w a := fun g hf => by
  obtain ⟨f1, f2, f3⟩ := h.free hf.lt hf.m hf.z
  exact ⟨f1, f3, f2, hf.z⟩
theorem Run.does {c d B hi U : Nat} {M : Nat → Prop} {C : CS} {w0 w : World} (h : Run c d B hi M U C w0 w) (x : ActC) (hx : x.ok) (ha : C.st.acts ≤ 800000) (hU : U ≤ 900000000) :
    Calls Tryz.prog 10 #[cV c, .pointer (some ⟨d, 0, none⟩), actV x] w fun e w' => e = .returned (.tuple #[.string (doesR C x).1, .int .i64 (doesR C x).2.1]) ∧ ∃ M', Run c d B hi M' (U + 1) (doesR C x).2.2 w0 w' ∧ Frees B hi M M' w w' := by
  refine (does_any x hx ha hU w h.cache).mono ?_
  rintro e w' ⟨M', rfl, h1, h2⟩
  exact ⟨rfl, M', h.went h1 h2, h2.frees⟩
theorem string_info : (Tryz.prog.info? 9).map (fun i => (i.zero, i.size, i.bytes)) = some (some (.string ⟨#[]⟩), 1, 16) := by kernel_rfl
theorem strings_made (n : Nat) (hn : n ≤ 4096) (w : World) :
    (Instr.makeSlice 50 (.int .i64 n) (.int .i64 n)).run Tryz.prog w = .ok (.slice (some ⟨w.heap.size, 0, none⟩) n n) (w.alloc (.cells (madeCells #[.string ⟨#[]⟩] n) 9)) := by
  obtain ⟨i, hi, hz, hs, hb⟩ := info_parts string_info
  have h := run_make (P := Tryz.prog) w 50 9 i (.string ⟨#[]⟩) Tryz.underlying50 hi hz .i64 .i64 n n (by omega) (Int.le_refl _) (by rw [hb]; omega) (by omega)
  simpa [hs, Value.cells] using h
/-! ### what is seen -/
theorem on_view {C : CS} {S : St} (hc : clean C) (hn : ∀ b, S.now b = C.st.now b) : clean (C.on S) ∧ ∀ k, view (C.on S) k = view C k :=
  ⟨fun x hx hd => by show x.data = S.now x.b; rw [hn]; exact hc x hx hd, fun k => by
    have e : atB (C.on S).L k = atB C.L k := rfl
    unfold view
    rw [e]
    cases atB C.L k with
    | none => exact hn k
    | some x => rfl⟩
theorem does_view {C : CS} (h : C.ok) (hc : clean C) (x : ActC) (h7 : x.kind % 13 ≠ 7) (h12 : x.kind % 13 ≠ 12) :
    clean (doesR C x).2.2 ∧
    (x.kind % 13 < 3 → (∀ k, view (doesR C x).2.2 k = view C k) ∧ ((doesR C x).2.1 = 0 → 0 ≤ x.b ∧ x.b < (C.st.n : Int) ∧ (doesR C x).1 = view C x.b.toNat)) ∧
    (3 ≤ x.kind % 13 → x.kind % 13 < 6 → ((doesR C x).2.1 ≠ 0 → ∀ k, view (doesR C x).2.2 k = view C k) ∧ ((doesR C x).2.1 = 0 → 0 ≤ x.b ∧ x.b < (C.st.n : Int) ∧ ∀ k, view (doesR C x).2.2 k = if k = x.b.toNat then whatC x else view C k)) ∧
    (6 ≤ x.kind % 13 → ∀ k, view (doesR C x).2.2 k = view C k) := by
  have g := get_view h hc x.b
  have p := put_view h hc x.b (whatC x) x.pin
  have o := out_view h hc x.b
  have s := sync_view h hc C.st.n
  have u := unpin_view hc x.b
  have ar := on_view (C := C) (S := C.st.armed x.n) hc (fun _ => rfl)
  have fl := on_view (C := C) (S := fSt C.st) hc (fun b => by unfold fSt; split <;> rfl)
  have hk : x.kind % 13 = 0 ∨ x.kind % 13 = 1 ∨ x.kind % 13 = 2 ∨ x.kind % 13 = 3 ∨ x.kind % 13 = 4 ∨ x.kind % 13 = 5 ∨ x.kind % 13 = 6 ∨ x.kind % 13 = 8 ∨ x.kind % 13 = 9 ∨ x.kind % 13 = 10 ∨ x.kind % 13 = 11 := by omega
  unfold doesR
  rcases hk with e | e | e | e | e | e | e | e | e | e | e <;> rw [e]
  · exact ⟨g.1, fun _ => ⟨g.2.1, g.2.2⟩, fun _ _ => (by omega), fun _ => (by omega)⟩
  · exact ⟨g.1, fun _ => ⟨g.2.1, g.2.2⟩, fun _ _ => (by omega), fun _ => (by omega)⟩
  · exact ⟨g.1, fun _ => ⟨g.2.1, g.2.2⟩, fun _ _ => (by omega), fun _ => (by omega)⟩
  · exact ⟨p.1, fun _ => (by omega), fun _ _ => ⟨p.2.1, p.2.2⟩, fun _ => (by omega)⟩
  · exact ⟨p.1, fun _ => (by omega), fun _ _ => ⟨p.2.1, p.2.2⟩, fun _ => (by omega)⟩
  · exact ⟨p.1, fun _ => (by omega), fun _ _ => ⟨p.2.1, p.2.2⟩, fun _ => (by omega)⟩
  · exact ⟨u.1, fun _ => (by omega), fun _ _ => (by omega), fun _ => u.2⟩
  · exact ⟨o.1, fun _ => (by omega), fun _ _ => (by omega), fun _ => o.2⟩
  · exact ⟨s.1, fun _ => (by omega), fun _ _ => (by omega), fun _ => s.2⟩
  · exact ⟨ar.1, fun _ => (by omega), fun _ _ => (by omega), fun _ => ar.2⟩
  · exact ⟨fl.1, fun _ => (by omega), fun _ _ => (by omega), fun _ => fl.2⟩
end Go.Proofs.YtehjobjjlldckaaGreat
