/-
  Three lists of texts as one, told plainly; where parts stand.
-/
import Derived.Test.YtbaoomkdlbjhlaaZSu
namespace Go.Proofs.Ytbaoomkdlbjhlaa
open Go.RowKit
set_option linter.unusedVariables false
set_option linter.unusedSimpArgs false

def jn1 (o a b : List ByteArray) (p : PT) : List ByteArray :=
  if p.1 = 1 then sub o p.2.1.1 p.2.1.2 else if p.1 = 3 then sub a p.2.2.1.1 p.2.2.1.2 else if p.1 = 4 then sub a p.2.2.1.1 p.2.2.1.2 else if p.1 = 5 then sub a p.2.2.1.1 p.2.2.1.2 ++ sub b p.2.2.2.1 p.2.2.2.2 else sub b p.2.2.2.1 p.2.2.2.2
def jnF (o a b : List ByteArray) : List PT → List ByteArray
  | [] => []
  | p :: r => jn1 o a b p ++ jnF o a b r
def clF : List PT → Nat
  | [] => 0
  | p :: r => (if p.1 = 5 then 1 else 0) + clF r
theorem jnF_app (o a b : List ByteArray) : ∀ (x y : List PT), jnF o a b (x ++ y) = jnF o a b x ++ jnF o a b y
  | [], y => rfl
  | p :: r, y => by rw [List.cons_append, jnF, jnF_app o a b r y, jnF, List.append_assoc]
theorem clF_app : ∀ (x y : List PT), clF (x ++ y) = clF x + clF y
  | [], y => by simp [clF]
  | p :: r, y => by rw [List.cons_append, clF, clF_app r y, clF]; omega
theorem clF_le : ∀ (x : List PT), clF x ≤ x.length
  | [] => Nat.le_refl _
  | p :: r => by have := clF_le r; rw [clF, List.length_cons]; split <;> omega
/-- A part lies within the lists. -/
def InP (n a b : Nat) (p : PT) : Prop := 1 ≤ p.1 ∧ p.1 ≤ 5 ∧ p.2.1.1 ≤ p.2.1.2 ∧ p.2.2.1.1 ≤ p.2.2.1.2 ∧ p.2.2.2.1 ≤ p.2.2.2.2 ∧ p.2.1.2 ≤ n ∧ p.2.2.1.2 ≤ a ∧ p.2.2.2.2 ≤ b
theorem goP_in (n a b : Nat) : ∀ (L : List PT) (i j k : Nat), GoP n a b i j k L → ∀ p ∈ L, InP n a b p
  | [], _, _, _, _, _, hp => by cases hp
  | q :: r, i, j, k, h, p, hp => by
    obtain ⟨a1, a2, a3, a4, a5, a6, a7, a8, a9, b1, b2, b3, b4⟩ := h
    rcases List.mem_cons.1 hp with rfl | hp
    · exact ⟨a1, a2, by omega, by omega, by omega, b1, b2, b3⟩
    · exact goP_in n a b r _ _ _ b4 p hp
theorem jn1_len {n a' b' : Nat} {o a b : List ByteArray} {p : PT} (h : InP n a' b' p) (ho : n ≤ o.length) (ha : a' ≤ a.length) (hb : b' ≤ b.length) : (jn1 o a b p).length ≤ (p.2.1.2 - p.2.1.1) + (p.2.2.1.2 - p.2.2.1.1) + (p.2.2.2.2 - p.2.2.2.1) := by
  obtain ⟨a1, a2, a3, a4, a5, a6, a7, a8⟩ := h
  have e1 := sub_len o p.2.1.1 p.2.1.2 (by omega)
  have e2 := sub_len a p.2.2.1.1 p.2.2.1.2 (by omega)
  have e3 := sub_len b p.2.2.2.1 p.2.2.2.2 (by omega)
  unfold jn1
  split
  · omega
  · split
    · omega
    · split
      · omega
      · split
        · rw [List.length_append]; omega
        · omega
theorem goP_jn (n a' b' : Nat) (o a b : List ByteArray) (ho : n ≤ o.length) (ha : a' ≤ a.length) (hb : b' ≤ b.length) : ∀ (L : List PT) (i j k : Nat), i ≤ n → j ≤ a' → k ≤ b' → GoP n a' b' i j k L → (jnF o a b L).length ≤ (n - i) + (a' - j) + (b' - k)
  | [], _, _, _, _, _, _, _ => Nat.zero_le _
  | q :: r, i, j, k, h1, h2, h3, h => by
    have hin := goP_in n a' b' (q :: r) i j k h q (List.mem_cons_self ..)
    obtain ⟨a1, a2, a3, a4, a5, a6, a7, a8, a9, b1, b2, b3, b4⟩ := h
    have e1 := jn1_len hin ho ha hb
    have e2 := goP_jn n a' b' o a b ho ha hb r _ _ _ b1 b2 b3 b4
    rw [jnF, List.length_append]
    omega
/-- All parts of three lists of texts. -/
def allP (o a b : List ByteArray) : List PT := ptF (smT o a b) o.length a.length b.length 0 0 0 (trF (lnP (eqT o a) o.length a.length 0 0) (lnP (eqT o b) o.length b.length 0 0))
theorem allP_up (o a b : List ByteArray) : UpT o.length a.length b.length 0 0 0 (trF (lnP (eqT o a) o.length a.length 0 0) (lnP (eqT o b) o.length b.length 0 0)) := trF_up (rise_p _ _ _ (lnP_rise0 _ _ _ _ _)) (rise_p _ _ _ (lnP_rise0 _ _ _ _ _))
theorem allP_go (o a b : List ByteArray) : GoP o.length a.length b.length 0 0 0 (allP o a b) := ptF_go _ _ _ _ _ _ _ _ (Nat.zero_le _) (Nat.zero_le _) (Nat.zero_le _) (allP_up o a b)
theorem allP_len (o a b : List ByteArray) : (allP o a b).length ≤ 2 * o.length + 1 := by
  have h1 := ptF_len (smT o a b) o.length a.length b.length (trF (lnP (eqT o a) o.length a.length 0 0) (lnP (eqT o b) o.length b.length 0 0)) 0 0 0
  have h2 := upT_len _ _ _ _ _ _ _ (allP_up o a b)
  unfold allP
  omega
end Go.Proofs.Ytbaoomkdlbjhlaa
