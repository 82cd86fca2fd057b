/- A pinned block, act by act, and how it ends. Without the program. -/
import Derived.Test.YticbielifcjpdaaCMath2
namespace Go.Proofs.Yticbielifcjpdaa
set_option linter.unusedVariables false
open Go.RowKit

def skipP (x : ActC) (a : Nat) : Prop := (x.kind % 13 = 6 ∨ x.kind % 13 = 7 ∨ x.kind % 13 = 12) ∧ x.b = (a : Int)
def setP (x : ActC) (a : Nat) (code : Int) : Prop := (3 ≤ x.kind % 13 ∧ x.kind % 13 < 6) ∧ x.b = (a : Int) ∧ code = 0
theorem does_pinned {C : CS} (h : C.ok) {a : Nat} {s z : ByteArray} (hp : pinned C a s z) (x : ActC) (hs : ¬ skipP x a) :
    (setP x a (doesR C x).2.1 → pinned (doesR C x).2.2 a (whatC x) z) ∧ (¬ setP x a (doesR C x).2.1 → pinned (doesR C x).2.2 a s z) := by
  have hk : x.kind % 13 = 0 ∨ x.kind % 13 = 1 ∨ x.kind % 13 = 2 ∨ x.kind % 13 = 3 ∨ x.kind % 13 = 4 ∨ x.kind % 13 = 5 ∨ x.kind % 13 = 6 ∨ x.kind % 13 = 7 ∨ x.kind % 13 = 8 ∨ x.kind % 13 = 9 ∨ x.kind % 13 = 10 ∨ x.kind % 13 = 11 ∨ x.kind % 13 = 12 := by omega
  have g := get_pinned h hp x.b
  have p := put_pinned h hp x.b (whatC x) x.pin
  have no : ∀ (k : Nat) (code : Int), x.kind % 13 = k → (k < 3 ∨ 6 ≤ k) → ¬ setP x a code := fun k code e hk ⟨h1, _⟩ => by omega
  have put : ∀ k : Nat, x.kind % 13 = k → 3 ≤ k → k < 6 → (setP x a (putC C x.b (whatC x) x.pin).1 → pinned (putC C x.b (whatC x) x.pin).2 a (whatC x) z) ∧ (¬ setP x a (putC C x.b (whatC x) x.pin).1 → pinned (putC C x.b (whatC x) x.pin).2 a s z) := fun k e h1 h2 => ⟨fun ⟨_, q1, q2⟩ => p.1 q1 q2, fun hn => p.2 (by
    by_cases e1 : x.b = (a : Int)
    · exact .inr fun e2 => hn ⟨by omega, e1, e2⟩
    · exact .inl e1)⟩
  have nb : ∀ k : Nat, x.kind % 13 = k → k = 6 ∨ k = 7 ∨ k = 12 → x.b ≠ (a : Int) := fun k e hk e2 => hs ⟨by omega, e2⟩
  unfold doesR
  rcases hk with e | e | e | e | e | e | e | e | e | e | e | e | e <;> rw [e]
  · exact ⟨fun q => absurd q (no 0 _ e (by omega)), fun _ => g⟩
  · exact ⟨fun q => absurd q (no 1 _ e (by omega)), fun _ => g⟩
  · exact ⟨fun q => absurd q (no 2 _ e (by omega)), fun _ => g⟩
  · exact put 3 e (by omega) (by omega)
  · exact put 4 e (by omega) (by omega)
  · exact put 5 e (by omega) (by omega)
  · exact ⟨fun q => absurd q (no 6 _ e (by omega)), fun _ => unpin_pinned hp (nb 6 e (by omega))⟩
  · exact ⟨fun q => absurd q (no 7 _ e (by omega)), fun _ => forget_pinned hp (nb 7 e (by omega))⟩
  · exact ⟨fun q => absurd q (no 8 _ e (by omega)), fun _ => out_pinned hp x.b⟩
  · exact ⟨fun q => absurd q (no 9 _ e (by omega)), fun _ => sync_pinned hp _⟩
  · exact ⟨fun q => absurd q (no 10 _ e (by omega)), fun _ => ⟨hp.1, hp.2⟩⟩
  · refine ⟨fun q => absurd q (no 11 _ e (by omega)), fun _ => ⟨hp.1, ?_⟩⟩
    have : ∀ b, (fSt C.st).now b = C.st.now b := fun b => by unfold fSt; split <;> rfl
    exact (this a).trans hp.2
  · exact ⟨fun q => absurd q (no 12 _ e (by omega)), fun _ => ⟨hp.1, (wSt_now (nb 12 e (by omega))).trans hp.2⟩⟩
theorem put_first {n most a : Nat} (hm : 1 ≤ most) (ha : a < n) :
    (putC ⟨freshSt n zeroB, most, []⟩ a (rep 112) true).1 = 0 ∧ pinned (putC ⟨freshSt n zeroB, most, []⟩ a (rep 112) true).2 a (rep 112) (rep 0) ∧
    (putC ⟨freshSt n zeroB, most, []⟩ a (rep 112) true).2.st = freshSt n zeroB ∧ (putC ⟨freshSt n zeroB, most, []⟩ a (rep 112) true).2.most = most := by
  have hr : roomC ⟨freshSt n zeroB, most, []⟩ = (0, ⟨freshSt n zeroB, most, []⟩) := by
    unfold roomC
    rw [if_pos (show ([] : List Buf).length < most from hm)]
  have e : putC ⟨freshSt n zeroB, most, []⟩ a (rep 112) true = (0, ⟨freshSt n zeroB, most, [⟨a, rep 112, true, true⟩]⟩) := by
    unfold putC
    rw [if_pos (show (0 : Int) ≤ (a : Int) ∧ (a : Int) < (((freshSt n zeroB).n : Nat) : Int) from ⟨by omega, by show (a : Int) < (n : Int); omega⟩), if_pos (rep_size 112)]
    rw [show atB (⟨freshSt n zeroB, most, []⟩ : CS).L (a : Int) = none from rfl]
    dsimp only
    rw [hr]
    rfl
  rw [e]
  refine ⟨rfl, ⟨?_, rfl⟩, rfl, rfl⟩
  show atB [⟨a, rep 112, true, true⟩] (a : Int) = _
  rw [atB_cons, if_pos rfl]
theorem pinned_has {C : CS} {a : Nat} {s z : ByteArray} (hp : pinned C a s z) (d p : Bool) : hasB C d p a = true := by
  unfold hasB
  rw [hp.1]
  cases d <;> cases p <;> rfl
theorem get_pin {C : CS} {a : Nat} {s z : ByteArray} (hp : pinned C a s z) (ha : a < C.st.n) : (getC C a).1 = s ∧ (getC C a).2.1 = 0 := by
  unfold getC
  rw [if_pos ⟨by omega, by omega⟩, hp.1]
  exact ⟨rfl, rfl⟩
theorem end_pin {C : CS} (h : C.ok) {a : Nat} {s z : ByteArray} (hp : pinned C a s z) (ha : a < C.st.n) (hl : C.st.left = -1) :
    (outC (unpinC C a) a).1 = 0 ∧ (outC (unpinC C a) a).2.st.now a = s ∧ hasB (outC (unpinC C a) a).2 true false a = false := by
  have h1 : atB (unpinC C a).L a = some ⟨a, s, true, false⟩ := by
    show atB (setB C.L a offPin) a = _
    rw [atB_set _ _ offPin fun x => rfl, if_pos rfl, hp.1]; rfl
  have hz : s.size = 128 := h.size _ (atB_some hp.1).1
  have hw : wCode (unpinC C a).st a s.size = 0 := wCode_zero (by omega) (by show (a : Int) < _; have : (unpinC C a).st.n = C.st.n := rfl; omega) hz (by show C.st.left ≠ 0; omega)
  unfold outC
  rw [h1]
  dsimp only
  rw [if_pos ⟨rfl, rfl⟩, if_pos hw]
  refine ⟨rfl, ?_, ?_⟩
  · show (wSt (unpinC C a).st a s).now a = s
    rw [wSt_new hw, wrote_now, if_pos (by omega)]
  · unfold hasB
    show (match atB (setB (unpinC C a).L a offDirty) a with | some x => _ | none => _) = false
    rw [atB_set _ _ offDirty fun x => rfl, if_pos rfl, h1]
    rfl
theorem cnt_most {C : CS} (h : C.ok) (n : Nat) : cntT (hasB C false false) n ≤ C.most := Nat.le_trans (has_count C n) h.len
end Go.Proofs.Yticbielifcjpdaa
