/-
  'policy.First' and the reference's First of layer 16 (made by mk_wft.py).
-/
import Derived.Test.YtfdhmhdemfbfeaaGreatDoorWWd
import Derived.Test.YtfdhmhdemfbfeaaGreatDoorMgBG
import Derived.Test.YtfdhmhdemfbfeaaGreatDoorMgBN
namespace Go.Proofs.YtfdhmhdemfbfeaaGreatDoor
open Go.RowKit
set_option linter.unusedVariables false
set_option linter.unusedSimpArgs false

/-- What is told of a node that is not allowed. -/
def txI (k : Int) (n : ByteArray) (ats : List (ByteArray × ByteArray)) (tx : ByteArray) : ByteArray := if k = 1 then bs (openL n.data.toList ats) else tx
/-- The first thing that is not allowed, and whether there is one. -/
def fdF (p : PPol) : Forest → ByteArray × Bool
  | .nil => (⟨#[]⟩, false)
  | .cons k sp n ats tx kids rest => if refN p k sp n ats = true then (txI k n ats tx, true) else if (fdF p kids).2 = true then fdF p kids else fdF p rest
def fdV : Option Item → ByteArray × Bool
  | none => (⟨#[]⟩, false)
  | some it => (txI it.k it.n it.ats it.tx, true)
theorem fd_is (p : PPol) : ∀ (f : Forest) (e : Nat), fdV ((items f e).find? (refI p)) = fdF p f
  | .nil, e => rfl
  | .cons k sp n ats tx kids rest, e => by
    show fdV (((⟨k, sp, n, ats, tx, kids, e⟩ : Item) :: (items kids (e + 1) ++ items rest e)).find? (refI p)) = _
    have hk := fd_is p kids (e + 1)
    have hr := fd_is p rest e
    rw [fdF]
    cases h : refN p k sp n ats with
    | true =>
      have h' : refI p ⟨k, sp, n, ats, tx, kids, e⟩ = true := h
      rw [List.find?_cons_of_pos h', if_pos rfl]; rfl
    | false =>
      have h' : ¬ refI p ⟨k, sp, n, ats, tx, kids, e⟩ = true := by
        have : refI p ⟨k, sp, n, ats, tx, kids, e⟩ = false := h
        rw [this]; decide
      rw [List.find?_cons_of_neg h', if_neg (by decide), List.find?_append]
      cases hf : (items kids (e + 1)).find? (refI p) with
      | none => rw [hf] at hk; rw [← hk]; simpa [fdV] using hr
      | some it => rw [hf] at hk; rw [← hk]; simp [fdV]
theorem alw_fd {p : PPol} (h : chkP p = 0) (f : Forest) : alwF p f = !(fdF p f).2 := by
  unfold alwF
  rw [decide_eq_true h, ← find_all, ← fd_is p f 1]
  cases (items f 1).find? (refI p) <;> rfl
theorem okN_fits {ats : List (ByteArray × ByteArray)} (h1 : ats.length ≤ 40) (h : ∀ x ∈ ats, x.1.size ≤ 100 ∧ x.2.size ≤ 2000) : Fits ats := ⟨by omega, fun k hk => by
  have := h _ (getD_in ats (ByteArray.empty, ByteArray.empty) k hk)
  unfold an av
  omega⟩
theorem chk_strange {p : PPol} (h : chkP p = 0) : ¬ p.st = 1 := by
  intro e
  unfold chkP at h
  have hr : remB p.st = false := by rw [e]; decide
  rw [hr, Bool.and_false] at h
  revert h
  generalize shB p = x0
  generalize (!twB (p.rs.map PRul.nm)) = x1
  generalize p.rs.all onceB = x2
  generalize p.rs.all nmsB = x3
  generalize p.rs.all actB = x4
  generalize p.rs.all kepB = x5
  generalize p.sc.all smlB = x6
  cases x0 <;> cases x1 <;> cases x2 <;> cases x3 <;> cases x4 <;> cases x5 <;> cases x6 <;> decide

set_option maxHeartbeats 4000000 in
set_option maxRecDepth 20000 in
theorem pfirst_any (v : Value) (p : PPol) (f : Forest) (q : Option Addr) (cap : Nat) (w : World) (ht : Tabs w) (hv : PolV w v p) (ho : PolOk p) (hf : Fo q f w) (hcap : f.len ≤ cap) (hc : f.count ≤ 1000000) (hok : ∀ it ∈ items f 1, OkN it) :
    Calls Tryz.prog 9 #[v, .slice q f.len cap] w fun e w' => e = .returned (.string (if chkP p = 0 then (fdF p f).1 else ⟨#[]⟩)) ∧ Below w.heap.size w w' := by
  have C1 := hide (fun W hW => check_any v p W (hv.below (w := w) hW) ho)
  have C2 := hide (fun W (hW : Below w.heap.size w W) => find_any v p f q cap W (hv.below hW) (hf.below hW) hcap hc (fun it hi => OkN.okI (hok it hi)))
  have CO := hide (fun sp n ats tx qa qk ca kl ck W (hW : Below w.heap.size w W) hs hF hn => jopen_yes sp n ats tx qa qk ca kl ck W (ht.below hW) hs hF hn)
  have HMM : Hid (∀ it, (items f 1).find? (refI p) = some it → OkN it) := hide (fun it h => hok it (List.mem_of_find?_eq_some h))
  obtain ⟨vrs, vs, rfl, h1, h2⟩ := hv
  obtain ⟨a2, c2, rfl⟩ := h2.slice
  obtain ⟨hrl, a1, c1, rfl, _⟩ := h1
  have HA : Hid (fdF p f = fdV ((items f 1).find? (refI p))) := hide (fd_is p f 1).symm
  unfold polC at *
  clear h2 hf hok ht
  generalize fdF p f = FD at *
  generalize chkP p = ch at *
  generalize hF : (items f 1).find? (refI p) = F at *
  clear hF
  obtain ⟨rs, sc, ot, st⟩ := p
  dsimp only at *
  generalize rs.length = n1 at *
  generalize sc.length = n2 at *
  generalize f.len = n3 at *
  have al := (Below.refl w.heap.size w).alloc (Nat.le_refl _) (Obj.cells #[.slice a1 n1 c1, .slice a2 n2 c2, .int .i64 ot, .int .i64 st] 25)
  have K := hide (Blk.new w #[.slice a1 n1 c1, .slice a2 n2 c2, .int .i64 ot, .int .i64 st] 25)
  have C1' := hide (unhide C1 _ al)
  by_cases h0 : ch = 0
  · subst h0
    rw [if_pos rfl]
    go_enter Tryz.func9, Tryz.ntmps9
    go_wp2_with fail
    refine (unhide C1').mono ?_
    rintro e1 w1 ⟨rfl, hb1⟩
    have hb01 := bel_of hb1
    have C2' := hide (unhide C2 w1 hb01)
    have q0 : w1.cell? ⟨w.heap.size, 0, none⟩ = some (.slice a1 n1 c1) := ((unhide K).later hb1).cell 0
    have q1 : w1.cell? ⟨w.heap.size, 1, none⟩ = some (.slice a2 n2 c2) := ((unhide K).later hb1).cell 1
    have q2 : w1.cell? ⟨w.heap.size, 2, none⟩ = some (.int .i64 ot) := ((unhide K).later hb1).cell 2
    have q3 : w1.cell? ⟨w.heap.size, 3, none⟩ = some (.int .i64 st) := ((unhide K).later hb1).cell 3
    have HB1 := hide hb01
    clear hb1 hb01 C1 C2 C1' al
    go_wp2_with fail
    refine (unhide C2').mono ?_
    rintro e1 w2 ⟨⟨vp, rfl, hvp⟩, hb2⟩
    have HB2 := hide (tr2 (unhide HB1) hb2)
    clear q0 q1 q2 q3 C2'
    cases F with
    | none =>
      have hvp' : vp = .pointer none := hvp
      subst hvp'
      clear hb2 hvp
      go_wp2
      go_ret
      exact ⟨by rw [unhide HA]; rfl, unhide HB2⟩
    | some it =>
      obtain ⟨g, oo, rest, rfl, hl⟩ := hvp
      have hon := unhide HMM it rfl
      obtain ⟨k, sp, n, ats, tx, kids, d⟩ := it
      obtain ⟨⟨l0, l1, l2, ⟨qa, ca, l3, hsl⟩, l4, ⟨qk, ck, l5, hck, hfk⟩⟩, _⟩ := hl.below hb2
      dsimp only at *
      have HA' : Hid (FD = (txI k n ats tx, true)) := HA
      by_cases hk1 : k = 1
      · subst hk1
        have C3 := hide (unhide CO sp n ats tx qa qk ca kids.len ck w2 (unhide HB2) hsl (okN_fits hon.1 hon.2.2.2) (by have h : n.size ≤ 100 := hon.2.1; omega))
        have H1 : Hid (FD.1 = bs (openL n.data.toList ats)) := hide (by rw [unhide HA']; rfl)
        generalize bs (openL n.data.toList ats) = X at *
        generalize ats.length = na at *
        generalize kids.len = nk at *
        clear hb2 hsl hfk hon hl CO HMM hck
        go_wp2_with fail
        refine (unhide C3).mono ?_
        rintro e1 w3 ⟨rfl, hb3⟩
        go_wp2
        go_ret
        exact ⟨by rw [unhide H1]; rfl, tr2 (unhide HB2) hb3⟩
      · have i1 : (k == 1) = false := beqI _ _ hk1
        have H1 : Hid (FD.1 = tx) := hide (by rw [unhide HA']; exact if_neg hk1)
        generalize ats.length = na at *
        generalize kids.len = nk at *
        clear hb2 hsl hfk hon hl CO HMM hck hk1
        go_wp2
        go_ret
        exact ⟨by rw [unhide H1]; rfl, unhide HB2⟩
  · obtain ⟨i0, i1⟩ := chk_ne h0
    rw [if_neg h0]
    clear h0
    go_enter Tryz.func9, Tryz.ntmps9
    go_wp2_with fail
    refine (unhide C1').mono ?_
    rintro e1 w1 ⟨rfl, hb1⟩
    go_wp2
    go_ret
    exact ⟨rfl, bel_of hb1⟩
end Go.Proofs.YtfdhmhdemfbfeaaGreatDoor
