/-
  Stage 15, plain: two sides over two wires, each in its row: what they come to does not hang on who goes first.
  Stage 15, plain: what a side makes of the other's packets.
  Stage 15, plain: the lives of two sides that come to terms.
  Stage 15, plain: any two links that may be, of unlike magics, come to terms.
  Stage 15, plain: a side that is open: closed, asked for an echo, asked anew.
  Stage 15, plain: a side that was refused one option asks without it.
-/
import Derived.Test.YteabkmelnoefiaaGreatDoorZ03
namespace Go.Proofs.YteabkmelnoefiaaGreatDoor.Ng
open Go.Proofs.YteabkmelnoefiaaGreatDoor
/-- Two sides' lives, packet by packet: what each is behind so many packets, what goes over each wire, how much of it is out by then. -/
structure Script where
  xs : List Side
  ys : List Side
  hx : List Pk
  hy : List Pk
  ox : List Nat
  oy : List Nat
/-- What lies on a wire. -/
def cut (h : List Pk) (i j : Nat) : List Pk := (h.take j).drop i
/-- The lives are as the sides take their packets. -/
structure Good (s : Script) : Prop where
  xlen : s.xs.length = s.hy.length + 1
  ylen : s.ys.length = s.hx.length + 1
  oxlen : s.ox.length = s.hy.length + 1
  oylen : s.oy.length = s.hx.length + 1
  oxle : ∀ i (h : i < s.ox.length), s.ox[i] ≤ s.hx.length
  oyle : ∀ i (h : i < s.oy.length), s.oy[i] ≤ s.hy.length
  xup : ∀ i (h : i < s.hy.length), s.ox[i]'(by omega) ≤ s.ox[i + 1]'(by omega)
  yup : ∀ i (h : i < s.hx.length), s.oy[i]'(by omega) ≤ s.oy[i + 1]'(by omega)
  xgo : ∀ i (h : i < s.hy.length), take (s.xs[i]'(by omega)) s.hy[i] = (s.xs[i + 1]'(by omega), cut s.hx (s.ox[i]'(by omega)) (s.ox[i + 1]'(by omega)), 0)
  ygo : ∀ i (h : i < s.hx.length), take (s.ys[i]'(by omega)) s.hx[i] = (s.ys[i + 1]'(by omega), cut s.hy (s.oy[i]'(by omega)) (s.oy[i + 1]'(by omega)), 0)
/-- So far: x has taken i packets, y j. -/
structure At (s : Script) (i j : Nat) (x y : Side) (toX toY : List Pk) : Prop where
  hi : i < s.xs.length
  hj : j < s.ys.length
  hi2 : i < s.ox.length
  hj2 : j < s.oy.length
  ix : i ≤ s.oy[j]
  jy : j ≤ s.ox[i]
  ex : x = s.xs[i]
  ey : y = s.ys[j]
  tx : toX = cut s.hy i s.oy[j]
  ty : toY = cut s.hx j s.ox[i]
theorem cut_cons (h : List Pk) (i j : Nat) (hij : i < j) (hj : j ≤ h.length) : cut h i j = h[i]'(by omega) :: cut h (i + 1) j := by
  unfold cut
  rw [List.drop_eq_getElem_cons (by rw [List.length_take]; omega)]
  simp
theorem cut_append (h : List Pk) (i j k : Nat) (hij : i ≤ j) (hjk : j ≤ k) (hk : k ≤ h.length) : cut h i j ++ cut h j k = cut h i k := by
  unfold cut
  apply List.ext_getElem?
  intro n
  by_cases hn : n < j - i
  · rw [List.getElem?_append_left (by simp; omega)]
    simp only [List.getElem?_drop, List.getElem?_take]
    rw [if_pos (by omega), if_pos (by omega)]
  · rw [List.getElem?_append_right (by simp; omega)]
    simp only [List.getElem?_drop, List.getElem?_take, List.length_drop, List.length_take]
    have e : j + (n - (min j h.length - i)) = i + n := by omega
    rw [e]
theorem cut_length (h : List Pk) (i j : Nat) (hj : j ≤ h.length) : (cut h i j).length = j - i := by
  unfold cut
  rw [List.length_drop, List.length_take]
  omega
/-- x takes what comes first. -/
theorem At.goX {s : Script} (G : Good s) {i j : Nat} {x y : Side} {p : Pk} {r toY : List Pk} (h : At s i j x y (p :: r) toY) :
    ∃ x' ps, take x p = (x', ps, 0) ∧ At s (i + 1) j x' y r (toY ++ ps) := by
  have hle := G.oyle j h.hj2
  have hlt : i < s.oy[j]'h.hj2 := by
    have e := congrArg List.length h.tx
    rw [cut_length _ _ _ hle, List.length_cons] at e
    have := h.ix
    omega
  have h2 := h.tx
  rw [cut_cons _ _ _ hlt hle] at h2
  injection h2 with hp hr
  have hih : i < s.hy.length := by omega
  have e1 := G.xlen
  have e2 := G.oxlen
  have hg := G.xgo i hih
  rw [← h.ex, ← hp] at hg
  refine ⟨_, _, hg, ⟨by omega, h.hj, by omega, h.hj2, by omega, Nat.le_trans h.jy (G.xup i hih), rfl, h.ey, hr, ?_⟩⟩
  exact (congrArg (fun l => l ++ cut s.hx (s.ox[i]'h.hi2) (s.ox[i + 1]'(by omega))) h.ty).trans <| cut_append _ _ _ _ h.jy (G.xup i hih) (G.oxle (i + 1) (by omega))
/-- y takes what comes first. -/
theorem At.goY {s : Script} (G : Good s) {i j : Nat} {x y : Side} {p : Pk} {r toX : List Pk} (h : At s i j x y toX (p :: r)) :
    ∃ y' ps, take y p = (y', ps, 0) ∧ At s i (j + 1) x y' (toX ++ ps) r := by
  have hle := G.oxle i h.hi2
  have hlt : j < s.ox[i]'h.hi2 := by
    have e := congrArg List.length h.ty
    rw [cut_length _ _ _ hle, List.length_cons] at e
    have := h.jy
    omega
  have h2 := h.ty
  rw [cut_cons _ _ _ hlt hle] at h2
  injection h2 with hp hr
  have hjh : j < s.hx.length := by omega
  have e1 := G.ylen
  have e2 := G.oylen
  have hg := G.ygo j hjh
  rw [← h.ey, ← hp] at hg
  refine ⟨_, _, hg, ⟨h.hi, by omega, h.hi2, by omega, Nat.le_trans h.ix (G.yup j hjh), by omega, h.ex, rfl, ?_, hr⟩⟩
  exact (congrArg (fun l => l ++ cut s.hy (s.oy[j]'h.hj2) (s.oy[j + 1]'(by omega))) h.tx).trans <| cut_append _ _ _ _ h.ix (G.yup j hjh) (G.oyle (j + 1) (by omega))
/-- Both wires empty: x has taken all that y let out, y all that x let out. -/
theorem At.rest {s : Script} (G : Good s) {i j : Nat} {x y : Side} (h : At s i j x y [] []) : i = s.oy[j]'h.hj2 ∧ j = s.ox[i]'h.hi2 := by
  have e1 := congrArg List.length h.tx
  have e2 := congrArg List.length h.ty
  rw [cut_length _ _ _ (G.oyle j h.hj2)] at e1
  rw [cut_length _ _ _ (G.oxle i h.hi2)] at e2
  have := h.ix
  have := h.jy
  simp at e1 e2
  omega
end Go.Proofs.YteabkmelnoefiaaGreatDoor.Ng
namespace Go.Proofs.YteabkmelnoefiaaGreatDoor.Ng
open Go.Proofs.YteabkmelnoefiaaGreatDoor
theorem wires_le (os : List Pol.Op) (h : ∀ o ∈ os, o.2.length ≤ 253) : (Opt.wires os).length ≤ os.length * 255 := by
  induction os with
  | nil => simp [Opt.wires]
  | cons o r ih =>
    have h1 := h o List.mem_cons_self
    have h2 := ih fun x hx => h x (List.mem_cons_of_mem _ hx)
    have e : Opt.wires (o :: r) = Opt.one o ++ Opt.wires r := rfl
    rw [e, List.length_append, List.length_cons]
    have e2 : (Opt.one o).length = o.2.length + 2 := by simp [Opt.one]
    omega
theorem code_few (os : List Pol.Op) (c i : Int) (hk : ∀ o ∈ os, 0 ≤ o.1 ∧ o.1 ≤ 255) (hd : ∀ o ∈ os, o.2.length ≤ 253) (hn : os.length ≤ 7) (hc : 1 ≤ c ∧ c ≤ 4) (hi : 0 ≤ i ∧ i ≤ 255) : Ctl.code (c, i, os, []) = 0 := by
  have hw := wires_le os hd
  have e1 : Opt.code os = 0 := by
    unfold Opt.code Opt.fits
    have a1 : os.all Opt.kindOk = true := by
      rw [List.all_eq_true]
      intro o ho
      have := hk o ho
      simp [Opt.kindOk]; omega
    have a2 : os.all Opt.short = true := by
      rw [List.all_eq_true]
      intro o ho
      have := hd o ho
      simp [Opt.short]; omega
    rw [a1, a2, if_pos rfl, decide_eq_true (by omega)]
    rfl
  have e2 : Ctl.byte c = true := by simp [Ctl.byte]; omega
  have e3 : Ctl.byte i = true := by simp [Ctl.byte]; omega
  have e4 : Ctl.conf c = true := by simp [Ctl.conf]; omega
  unfold Ctl.code Ctl.own Ctl.body
  simp only [e1, e2, e3, e4, and_self, if_true, List.isEmpty_nil]
  rw [if_pos (by omega)]
theorem code_asks (l : Pol.Lk) (hl : Pol.may l = true) (c i : Int) (hc : 1 ≤ c ∧ c ≤ 4) (hi : 0 ≤ i ∧ i ≤ 255) : Ctl.code (c, i, Pol.asks l, []) = 0 := by
  have hlen := Pol.asks_length l
  refine code_few _ c i (Pol.asks_range l) (fun o ho => ?_) (by omega) hc hi
  have h := Pol.fit_right o (Pol.right_asks l hl o ho)
  unfold Pol.fit at h
  simp at h
  omega
theorem code_rej (i : Int) (hi : 0 ≤ i ∧ i ≤ 255) : Ctl.code (4, i, [(18, [])], []) = 0 :=
  code_few _ 4 i (by simp) (by simp) (by simp) (by omega) hi
theorem ask_may (l : Pol.Lk) (h : Pol.may l = true) : (Pol.ask l).1 = Pol.asks l := by unfold Pol.ask; rw [if_pos h]
/-- Two links that may come to terms: both may be, their magics are not one. -/
def Fit (a b : Pol.Lk) : Prop := Pol.may a = true ∧ Pol.may b = true ∧ ¬ (a.magic ≠ 0 ∧ a.magic = b.magic)
/-- A request that is good. -/
theorem take_good (g : Side) (i : Int) (b : Pol.Lk) (h : Fit b g.own) (hs : ¬ (b.short = true ∧ g.own.short = false)) (hst : ¬ (g.st = 0 ∨ g.st = 1)) (hi : 0 ≤ i ∧ i ≤ 255) :
    take g (1, i, Pol.asks b, []) = run g 6 (1, i, Pol.asks b, []) 0 (Pol.asks b) := by
  unfold take
  rw [if_neg (by simp [code_asks b h.1 1 i (by omega) hi]), if_neg hst, if_pos rfl]
  have hj := Pol.judge_asks b g.own h.1 h.2.1
  rw [if_neg hs, if_neg h.2.2] at hj
  simp only [hj]
  rfl
/-- A request that is rejected for its short heads. -/
theorem take_bad (g : Side) (i : Int) (b : Pol.Lk) (h : Fit b g.own) (hs : b.short = true ∧ g.own.short = false) (hst : ¬ (g.st = 0 ∨ g.st = 1)) (hi : 0 ≤ i ∧ i ≤ 255) :
    take g (1, i, Pol.asks b, []) = run g 7 (1, i, Pol.asks b, []) 2 [(18, [])] := by
  unfold take
  rw [if_neg (by simp [code_asks b h.1 1 i (by omega) hi]), if_neg hst, if_pos rfl]
  have hj := Pol.judge_asks b g.own h.1 h.2.1
  rw [if_pos hs] at hj
  simp only [hj]
  rfl
theorem take_ack (g : Side) (l : Pol.Lk) (hl : Pol.may l = true) (ha : g.asked = Pol.asks l) (hst : ¬ (g.st = 0 ∨ g.st = 1)) (hi : 0 ≤ g.sent ∧ g.sent ≤ 255) :
    take g (2, g.sent, Pol.asks l, []) = run g 8 (2, g.sent, Pol.asks l, []) 0 [] := by
  unfold take
  rw [if_neg (by simp [code_asks l hl 2 g.sent (by omega) hi]), if_neg hst, if_neg (by simp), if_pos rfl, if_pos ⟨rfl, ha.symm⟩]
theorem take_rej (g : Side) (hl : Pol.may g.own = true) (hst : ¬ (g.st = 0 ∨ g.st = 1)) (hi : 0 ≤ g.sent ∧ g.sent ≤ 255) :
    take g (4, g.sent, [(18, [])], []) = run { g with own := { g.own with short := false } } 9 (4, g.sent, [(18, [])], []) 0 [] := by
  unfold take
  rw [if_neg (by simp [code_rej g.sent hi]), if_neg hst, if_neg (by simp), if_neg (by simp), if_pos (.inr rfl), if_pos rfl]
  simp only [Pol.learn_short g.own hl]
/-- In row, the automaton's steps that two sides go. -/
theorem f66 : Fsm.step 6 6 = (8, [8], 0) := by decide +kernel
theorem f67 : Fsm.step 6 7 = (6, [9], 0) := by decide +kernel
theorem f68 : Fsm.step 6 8 = (7, [5], 0) := by decide +kernel
theorem f76 : Fsm.step 7 6 = (9, [8, 1], 0) := by decide +kernel
theorem f88 : Fsm.step 8 8 = (9, [5, 1], 0) := by decide +kernel
theorem f89 : Fsm.step 8 9 = (8, [5, 7], 0) := by decide +kernel
theorem f96 : Fsm.step 9 6 = (8, [2, 7, 8], 0) := by decide +kernel
end Go.Proofs.YteabkmelnoefiaaGreatDoor.Ng
namespace Go.Proofs.YteabkmelnoefiaaGreatDoor.Ng
open Go.Proofs.YteabkmelnoefiaaGreatDoor
/-- A side with one link or another, in a state, behind so many requests. -/
def mk (st : Int) (own other : Pol.Lk) (left t id : Int) : Side := ⟨st, own, other, left, t, id, id, Pol.asks own⟩
theorem asking_mk (l : Pol.Lk) (h : Pol.may l = true) (t : Int) : asking l t = mk 6 l Pol.zero (less t) t 1 := by
  unfold asking mk
  rw [ask_may l h]
theorem go_good (own b o : Pol.Lk) (left t id i : Int) (h : Fit b own) (hs : ¬ (b.short = true ∧ own.short = false)) (hi : 0 ≤ i ∧ i ≤ 255) :
    take (mk 6 own o left t id) (1, i, Pol.asks b, []) = (mk 8 own b left t id, [(2, i, Pol.asks b, [])], 0) := by
  rw [take_good _ i b h hs (by simp [mk]) hi]
  unfold run
  rw [show (mk 6 own o left t id).st = 6 from rfl, f66, if_pos rfl]
  simp [acts, act, mk, Pol.taken_asks b h.1]
theorem go_good7 (own b o : Pol.Lk) (left t id i : Int) (h : Fit b own) (hs : ¬ (b.short = true ∧ own.short = false)) (hi : 0 ≤ i ∧ i ≤ 255) :
    take (mk 7 own o left t id) (1, i, Pol.asks b, []) = (mk 9 own b left t id, [(2, i, Pol.asks b, [])], 0) := by
  rw [take_good _ i b h hs (by simp [mk]) hi]
  unfold run
  rw [show (mk 7 own o left t id).st = 7 from rfl, f76, if_pos rfl]
  simp [acts, act, mk, Pol.taken_asks b h.1]
theorem go_bad (own b o : Pol.Lk) (left t id i : Int) (h : Fit b own) (hs : b.short = true ∧ own.short = false) (hi : 0 ≤ i ∧ i ≤ 255) :
    take (mk 6 own o left t id) (1, i, Pol.asks b, []) = (mk 6 own o left t id, [(4, i, [(18, [])], [])], 0) := by
  rw [take_bad _ i b h hs (by simp [mk]) hi]
  unfold run
  rw [show (mk 6 own o left t id).st = 6 from rfl, f67, if_pos rfl]
  simp [acts, act, mk]
theorem go_ack8 (own o : Pol.Lk) (left t id : Int) (h : Pol.may own = true) (hi : 0 ≤ id ∧ id ≤ 255) :
    take (mk 8 own o left t id) (2, id, Pol.asks own, []) = (mk 9 own o t t id, [], 0) := by
  have e := take_ack (mk 8 own o left t id) own h rfl (by simp [mk]) hi
  rw [show (mk 8 own o left t id).sent = id from rfl] at e
  rw [e]
  unfold run
  rw [show (mk 8 own o left t id).st = 8 from rfl, f88, if_pos rfl]
  simp [acts, act, mk]
theorem go_ack6 (own o : Pol.Lk) (left t id : Int) (h : Pol.may own = true) (hi : 0 ≤ id ∧ id ≤ 255) :
    take (mk 6 own o left t id) (2, id, Pol.asks own, []) = (mk 7 own o t t id, [], 0) := by
  have e := take_ack (mk 6 own o left t id) own h rfl (by simp [mk]) hi
  rw [show (mk 6 own o left t id).sent = id from rfl] at e
  rw [e]
  unfold run
  rw [show (mk 6 own o left t id).st = 6 from rfl, f68, if_pos rfl]
  simp [acts, act, mk]
theorem may_bare (a : Pol.Lk) (h : Pol.may a = true) : Pol.may { a with short := false } = true := by
  rw [Pol.may_iff] at h ⊢
  exact h
theorem go_rej8 (own o : Pol.Lk) (left t id : Int) (h : Pol.may own = true) (hi : 0 ≤ id ∧ id < 255) :
    take (mk 8 own o left t id) (4, id, [(18, [])], []) = (mk 8 { own with short := false } o (less t) t (id + 1), [(1, id + 1, Pol.asks { own with short := false }, [])], 0) := by
  have e := take_rej (mk 8 own o left t id) h (by simp [mk]) (by simp [mk]; omega)
  rw [show (mk 8 own o left t id).sent = id from rfl] at e
  rw [e]
  unfold run
  rw [show ({ mk 8 own o left t id with own := { (mk 8 own o left t id).own with short := false } } : Side).st = 8 from rfl, f89, if_pos rfl]
  have hm := ask_may _ (may_bare own h)
  have e1 : (id + 1) % 256 = id + 1 := by omega
  simp [acts, act, mk, hm, e1]
/-- Nothing is rejected. -/
def calm (a b : Pol.Lk) (t : Int) : Script where
  xs := [mk 6 a Pol.zero (less t) t 1, mk 8 a b (less t) t 1, mk 9 a b t t 1]
  ys := [mk 6 b Pol.zero (less t) t 1, mk 8 b a (less t) t 1, mk 9 b a t t 1]
  hx := [(1, 1, Pol.asks a, []), (2, 1, Pol.asks b, [])]
  hy := [(1, 1, Pol.asks b, []), (2, 1, Pol.asks a, [])]
  ox := [1, 2, 2]
  oy := [1, 2, 2]
/-- x's short heads are rejected. -/
def shorn (a b : Pol.Lk) (t : Int) : Script where
  xs := [mk 6 a Pol.zero (less t) t 1, mk 8 a b (less t) t 1, mk 8 { a with short := false } b (less t) t 2, mk 9 { a with short := false } b t t 2]
  ys := [mk 6 b Pol.zero (less t) t 1, mk 6 b Pol.zero (less t) t 1, mk 7 b Pol.zero t t 1, mk 9 b { a with short := false } t t 1]
  hx := [(1, 1, Pol.asks a, []), (2, 1, Pol.asks b, []), (1, 2, Pol.asks { a with short := false }, [])]
  hy := [(1, 1, Pol.asks b, []), (4, 1, [(18, [])], []), (2, 2, Pol.asks { a with short := false }, [])]
  ox := [1, 2, 3, 3]
  oy := [1, 2, 2, 3]
theorem calm_good (a b : Pol.Lk) (t : Int) (h : Fit a b) (h' : Fit b a) (hs : a.short = b.short) : Good (calm a b t) := by
  have n1 : ¬ (a.short = true ∧ b.short = false) := by rw [hs]; cases b.short <;> simp
  have n2 : ¬ (b.short = true ∧ a.short = false) := by rw [hs]; cases b.short <;> simp
  refine ⟨rfl, rfl, rfl, rfl, ?_, ?_, ?_, ?_, ?_, ?_⟩
  · intro i hi
    match i, hi with
    | 0, _ => simp [calm]
    | 1, _ => simp [calm]
    | 2, _ => simp [calm]
  · intro i hi
    match i, hi with
    | 0, _ => simp [calm]
    | 1, _ => simp [calm]
    | 2, _ => simp [calm]
  · intro i hi
    match i, hi with
    | 0, _ => simp [calm]
    | 1, _ => simp [calm]
  · intro i hi
    match i, hi with
    | 0, _ => simp [calm]
    | 1, _ => simp [calm]
  · intro i hi
    match i, hi with
    | 0, _ => exact go_good a b Pol.zero (less t) t 1 1 h' n2 (by omega)
    | 1, _ => exact go_ack8 a b (less t) t 1 h.1 (by omega)
  · intro i hi
    match i, hi with
    | 0, _ => exact go_good b a Pol.zero (less t) t 1 1 h n1 (by omega)
    | 1, _ => exact go_ack8 b a (less t) t 1 h.2.1 (by omega)
theorem shorn_good (a b : Pol.Lk) (t : Int) (h : Fit a b) (h' : Fit b a) (ha : a.short = true) (hb : b.short = false) : Good (shorn a b t) := by
  have h0 : Fit { a with short := false } b := ⟨may_bare a h.1, h.2.1, h.2.2⟩
  refine ⟨rfl, rfl, rfl, rfl, ?_, ?_, ?_, ?_, ?_, ?_⟩
  · intro i hi
    match i, hi with
    | 0, _ => simp [shorn]
    | 1, _ => simp [shorn]
    | 2, _ => simp [shorn]
    | 3, _ => simp [shorn]
  · intro i hi
    match i, hi with
    | 0, _ => simp [shorn]
    | 1, _ => simp [shorn]
    | 2, _ => simp [shorn]
    | 3, _ => simp [shorn]
  · intro i hi
    match i, hi with
    | 0, _ => simp [shorn]
    | 1, _ => simp [shorn]
    | 2, _ => simp [shorn]
  · intro i hi
    match i, hi with
    | 0, _ => simp [shorn]
    | 1, _ => simp [shorn]
    | 2, _ => simp [shorn]
  · intro i hi
    match i, hi with
    | 0, _ => exact go_good a b Pol.zero (less t) t 1 1 h' (by simp [hb]) (by omega)
    | 1, _ => exact go_rej8 a b (less t) t 1 h.1 (by omega)
    | 2, _ => exact go_ack8 { a with short := false } b (less t) t 2 (may_bare a h.1) (by omega)
  · intro i hi
    match i, hi with
    | 0, _ => exact go_bad b a Pol.zero (less t) t 1 1 h ⟨ha, hb⟩ (by omega)
    | 1, _ => exact go_ack6 b Pol.zero (less t) t 1 h.2.1 (by omega)
    | 2, _ => exact go_good7 b { a with short := false } Pol.zero t t 1 2 h0 (by simp) (by omega)
/-- Who comes to rest is open, each has what the other asked for. -/
theorem calm_rest (a b : Pol.Lk) (t : Int) (h : Fit a b) (h' : Fit b a) (hs : a.short = b.short) {i j : Nat} {x y : Side} (hA : At (calm a b t) i j x y [] []) : x = mk 9 a b t t 1 ∧ y = mk 9 b a t t 1 := by
  obtain ⟨e1, e2⟩ := hA.rest (calm_good a b t h h' hs)
  have hi := hA.hi
  have hj := hA.hj
  have ex := hA.ex
  have ey := hA.ey
  match i, j, hi, hj with
  | 0, 0, _, _ => simp [calm] at e1
  | 0, 1, _, _ => simp [calm] at e1
  | 0, 2, _, _ => simp [calm] at e1
  | 1, 0, _, _ => simp [calm] at e2
  | 1, 1, _, _ => simp [calm] at e1
  | 1, 2, _, _ => simp [calm] at e1
  | 2, 0, _, _ => simp [calm] at e1
  | 2, 1, _, _ => simp [calm] at e2
  | 2, 2, _, _ => exact ⟨ex, ey⟩
theorem shorn_rest (a b : Pol.Lk) (t : Int) (h : Fit a b) (h' : Fit b a) (ha : a.short = true) (hb : b.short = false) {i j : Nat} {x y : Side} (hA : At (shorn a b t) i j x y [] []) :
    x = mk 9 { a with short := false } b t t 2 ∧ y = mk 9 b { a with short := false } t t 1 := by
  obtain ⟨e1, e2⟩ := hA.rest (shorn_good a b t h h' ha hb)
  have hi := hA.hi
  have hj := hA.hj
  have ex := hA.ex
  have ey := hA.ey
  match i, j, hi, hj with
  | 0, 0, _, _ => simp [shorn] at e1
  | 0, 1, _, _ => simp [shorn] at e1
  | 0, 2, _, _ => simp [shorn] at e1
  | 0, 3, _, _ => simp [shorn] at e1
  | 1, 0, _, _ => simp [shorn] at e2
  | 1, 1, _, _ => simp [shorn] at e1
  | 1, 2, _, _ => simp [shorn] at e1
  | 1, 3, _, _ => simp [shorn] at e1
  | 2, 0, _, _ => simp [shorn] at e1
  | 2, 1, _, _ => simp [shorn] at e2
  | 2, 2, _, _ => simp [shorn] at e2
  | 2, 3, _, _ => simp [shorn] at e1
  | 3, 0, _, _ => simp [shorn] at e1
  | 3, 1, _, _ => simp [shorn] at e1
  | 3, 2, _, _ => simp [shorn] at e1
  | 3, 3, _, _ => exact ⟨ex, ey⟩
end Go.Proofs.YteabkmelnoefiaaGreatDoor.Ng
namespace Go.Proofs.YteabkmelnoefiaaGreatDoor.Ng
open Go.Proofs.YteabkmelnoefiaaGreatDoor
def Script.swap (s : Script) : Script := ⟨s.ys, s.xs, s.hy, s.hx, s.oy, s.ox⟩
theorem Good.swap {s : Script} (h : Good s) : Good s.swap := ⟨h.ylen, h.xlen, h.oylen, h.oxlen, h.oyle, h.oxle, h.yup, h.xup, h.ygo, h.xgo⟩
theorem At.swap {s : Script} {i j : Nat} {x y : Side} {toX toY : List Pk} (h : At s i j x y toX toY) : At s.swap j i y x toY toX := ⟨h.hj, h.hi, h.hj2, h.hi2, h.jy, h.ix, h.ey, h.ex, h.ty, h.tx⟩
/-- Open, and each has what the other asked for. -/
structure Opened (t : Int) (x y : Side) : Prop where
  go : ∃ a b ia ib, x = mk 9 a b t t ia ∧ y = mk 9 b a t t ib ∧ Fit a b ∧ Fit b a ∧ a.short = b.short ∧ 1 ≤ ia ∧ ia ≤ 2 ∧ 1 ≤ ib ∧ ib ≤ 2
theorem Opened.swap {t : Int} {x y : Side} (h : Opened t x y) : Opened t y x := by
  obtain ⟨a, b, ia, ib, h1, h2, h3, h4, h5, h6, h7, h8, h9⟩ := h.go
  exact ⟨b, a, ib, ia, h2, h1, h4, h3, h5.symm, h8, h9, h6, h7⟩
theorem fit_of (a b : Pol.Lk) (ha : Pol.may a = true) (hb : Pol.may b = true) (hm : ¬ (a.magic ≠ 0 ∧ a.magic = b.magic)) : Fit a b ∧ Fit b a :=
  ⟨⟨ha, hb, hm⟩, hb, ha, fun h => hm ⟨by rw [← h.2]; exact h.1, h.2.symm⟩⟩
theorem terms_shorn (a b : Pol.Lk) (t : Int) (h : Fit a b) (h' : Fit b a) (ha : a.short = true) (hb : b.short = false) :
    Good (shorn a b t) ∧ At (shorn a b t) 0 0 (mk 6 a Pol.zero (less t) t 1) (mk 6 b Pol.zero (less t) t 1) [(1, 1, Pol.asks b, [])] [(1, 1, Pol.asks a, [])] ∧ ∀ i j x y, At (shorn a b t) i j x y [] [] → Opened t x y := by
  refine ⟨shorn_good a b t h h' ha hb, ⟨by simp [shorn], by simp [shorn], by simp [shorn], by simp [shorn], by simp, by simp, rfl, rfl, rfl, rfl⟩, fun i j x y hA => ?_⟩
  obtain ⟨rfl, rfl⟩ := shorn_rest a b t h h' ha hb hA
  exact ⟨_, _, _, _, rfl, rfl, ⟨may_bare a h.1, h.2.1, h.2.2⟩, ⟨h'.1, may_bare a h.1, h'.2.2⟩, hb.symm, by omega, by omega, by omega, by omega⟩
/-- Whoever goes first: at rest both are open. -/
theorem terms (a b : Pol.Lk) (t : Int) (ha : Pol.may a = true) (hb : Pol.may b = true) (hm : ¬ (a.magic ≠ 0 ∧ a.magic = b.magic)) :
    ∃ s, Good s ∧ s.hx.length ≤ 3 ∧ s.hy.length ≤ 3 ∧ At s 0 0 (asking a t) (asking b t) [(1, 1, (Pol.ask b).1, [])] [(1, 1, (Pol.ask a).1, [])] ∧ ∀ i j x y, At s i j x y [] [] → Opened t x y := by
  obtain ⟨h, h'⟩ := fit_of a b ha hb hm
  rw [asking_mk a ha, asking_mk b hb, ask_may a ha, ask_may b hb]
  cases h1 : a.short
  · cases h2 : b.short
    · refine ⟨calm a b t, calm_good a b t h h' (by rw [h1, h2]), by simp [calm], by simp [calm], ⟨by simp [calm], by simp [calm], by simp [calm], by simp [calm], by simp, by simp, rfl, rfl, rfl, rfl⟩, fun i j x y hA => ?_⟩
      obtain ⟨rfl, rfl⟩ := calm_rest a b t h h' (by rw [h1, h2]) hA
      exact ⟨_, _, _, _, rfl, rfl, h, h', by rw [h1, h2], by omega, by omega, by omega, by omega⟩
    · obtain ⟨g1, g2, g3⟩ := terms_shorn b a t h' h h2 h1
      exact ⟨(shorn b a t).swap, g1.swap, by simp [shorn, Script.swap], by simp [shorn, Script.swap], g2.swap, fun i j x y hA => (g3 j i y x hA.swap).swap⟩
  · cases h2 : b.short
    · obtain ⟨g1, g2, g3⟩ := terms_shorn a b t h h' h1 h2
      exact ⟨shorn a b t, g1, by simp [shorn], by simp [shorn], g2, g3⟩
    · refine ⟨calm a b t, calm_good a b t h h' (by rw [h1, h2]), by simp [calm], by simp [calm], ⟨by simp [calm], by simp [calm], by simp [calm], by simp [calm], by simp, by simp, rfl, rfl, rfl, rfl⟩, fun i j x y hA => ?_⟩
      obtain ⟨rfl, rfl⟩ := calm_rest a b t h h' (by rw [h1, h2]) hA
      exact ⟨_, _, _, _, rfl, rfl, h, h', by rw [h1, h2], by omega, by omega, by omega, by omega⟩
/-- A side takes no more packets than the other lets out. -/
theorem At.few {s : Script} (G : Good s) {i j : Nat} {x y : Side} {toX toY : List Pk} (h : At s i j x y toX toY) : i ≤ s.hy.length ∧ j ≤ s.hx.length := by
  have := G.xlen
  have := G.ylen
  have := h.hi
  have := h.hj
  omega
end Go.Proofs.YteabkmelnoefiaaGreatDoor.Ng
namespace Go.Proofs.YteabkmelnoefiaaGreatDoor.Ng
open Go.Proofs.YteabkmelnoefiaaGreatDoor
theorem code_bare (c i : Int) (d : List UInt8) (hc : 5 ≤ c ∧ c ≤ 255) (hi : 0 ≤ i ∧ i ≤ 255) (hd : d.length ≤ 2044) : Ctl.code (c, i, [], d) = 0 := by
  have e2 : Ctl.byte c = true := by simp [Ctl.byte]; omega
  have e3 : Ctl.byte i = true := by simp [Ctl.byte]; omega
  have e4 : Ctl.conf c = false := by simp [Ctl.conf]; omega
  have e1 : Opt.code [] = 0 := by decide
  unfold Ctl.code Ctl.own Ctl.body
  simp only [e1, e2, e3, e4, and_self, if_true, List.isEmpty_nil, Bool.false_eq_true, if_false]
  rw [if_pos (by omega)]
theorem f93 : Fsm.step 9 3 = (4, [2, 5, 10], 0) := by decide +kernel
theorem f910 : Fsm.step 9 10 = (5, [2, 6, 11], 0) := by decide +kernel
theorem f411 : Fsm.step 4 11 = (2, [4], 0) := by decide +kernel
theorem f55 : Fsm.step 5 5 = (3, [4], 0) := by decide +kernel
theorem f915 : Fsm.step 9 15 = (9, [13], 0) := by decide +kernel
theorem f912 : Fsm.step 9 12 = (9, [12], 0) := by decide +kernel
theorem f91 : Fsm.step 9 1 = (1, [2], 0) := by decide +kernel
theorem f10 : Fsm.step 1 0 = (6, [5, 7], 0) := by decide +kernel
/-- Any state, any tries left, the id and the last request's id apart. -/
def at_ (st : Int) (own other : Pol.Lk) (left t id sent : Int) : Side := ⟨st, own, other, left, t, id, sent, Pol.asks own⟩
theorem mk_at (st : Int) (own other : Pol.Lk) (left t id : Int) : mk st own other left t id = at_ st own other left t id id := rfl
theorem closes (a b : Pol.Lk) (t id : Int) (hi : 0 ≤ id ∧ id ≤ 254) : step (mk 9 a b t t id) 3 = (at_ 4 a b (less t) t (id + 1) id, [(5, id + 1, [], [])], 0) := by
  unfold step
  rw [if_pos (show isEvent 3 = true from rfl), if_neg (by simp)]
  unfold run
  rw [show (mk 9 a b t t id).st = 9 from rfl, f93, if_pos rfl]
  have e1 : (id + 1) % 256 = id + 1 := by omega
  simp [acts, act, mk, at_, e1]
theorem answers_close (a b : Pol.Lk) (t id i : Int) (hi : 0 ≤ i ∧ i ≤ 255) : take (mk 9 a b t t id) (5, i, [], []) = (mk 5 a b 0 t id, [(6, i, [], [])], 0) := by
  unfold take
  rw [if_neg (by simp [code_bare 5 i [] (by omega) hi (by simp)]), if_neg (by simp [mk])]
  simp only [show ¬ ((5 : Int) = 1) by decide, show ¬ ((5 : Int) = 2) by decide, show ¬ ((5 : Int) = 3 ∨ (5 : Int) = 4) by decide, if_false, if_true]
  unfold run
  rw [show (mk 9 a b t t id).st = 9 from rfl, f910, if_pos rfl]
  simp [acts, act, mk]
theorem closed (a b : Pol.Lk) (left t id sent i : Int) (hi : 0 ≤ i ∧ i ≤ 255) : take (at_ 4 a b left t id sent) (6, i, [], []) = (at_ 2 a b left t id sent, [], 0) := by
  unfold take
  rw [if_neg (by simp [code_bare 6 i [] (by omega) hi (by simp)]), if_neg (by simp [at_])]
  simp only [show ¬ ((6 : Int) = 1) by decide, show ¬ ((6 : Int) = 2) by decide, show ¬ ((6 : Int) = 3 ∨ (6 : Int) = 4) by decide, show ¬ ((6 : Int) = 5) by decide, if_false, if_true]
  unfold run
  rw [show (at_ 4 a b left t id sent).st = 4 from rfl, f411, if_pos rfl]
  simp [acts, act, at_]
theorem rests (a b : Pol.Lk) (t id : Int) : step (mk 5 a b 0 t id) 4 = (mk 3 a b 0 t id, [], 0) := by
  unfold step
  rw [if_pos (show isEvent 4 = true from rfl), if_pos ⟨rfl, rfl⟩]
  unfold run
  rw [show (mk 5 a b 0 t id).st = 5 from rfl, f55, if_pos rfl]
  simp [acts, act, mk]
theorem echoes (a b : Pol.Lk) (left t id sent i : Int) (d : List UInt8) (hi : 0 ≤ i ∧ i ≤ 255) (hd : d.length ≤ 2044) : take (at_ 9 a b left t id sent) (9, i, [], d) = (at_ 9 a b left t id sent, [(10, i, [], d)], 0) := by
  unfold take
  rw [if_neg (by simp [code_bare 9 i d (by omega) hi hd]), if_neg (by simp [at_])]
  simp only [show ¬ ((9 : Int) = 1) by decide, show ¬ ((9 : Int) = 2) by decide, show ¬ ((9 : Int) = 3 ∨ (9 : Int) = 4) by decide, show ¬ ((9 : Int) = 5) by decide, show ¬ ((9 : Int) = 6) by decide, show ¬ ((9 : Int) = 7 ∨ (9 : Int) = 8) by decide, if_false, true_or, if_true]
  unfold run
  rw [show (at_ 9 a b left t id sent).st = 9 from rfl, f915, if_pos rfl]
  simp [acts, act, at_]
theorem discards (a b : Pol.Lk) (left t id sent i : Int) (d : List UInt8) (hi : 0 ≤ i ∧ i ≤ 255) (hd : d.length ≤ 2044) : take (at_ 9 a b left t id sent) (11, i, [], d) = (at_ 9 a b left t id sent, [], 0) := by
  unfold take
  rw [if_neg (by simp [code_bare 11 i d (by omega) hi hd]), if_neg (by simp [at_])]
  simp only [show ¬ ((11 : Int) = 1) by decide, show ¬ ((11 : Int) = 2) by decide, show ¬ ((11 : Int) = 3 ∨ (11 : Int) = 4) by decide, show ¬ ((11 : Int) = 5) by decide, show ¬ ((11 : Int) = 6) by decide, show ¬ ((11 : Int) = 7 ∨ (11 : Int) = 8) by decide, if_false, or_true, if_true]
  unfold run
  rw [show (at_ 9 a b left t id sent).st = 9 from rfl, f915, if_pos rfl]
  simp [acts, act, at_]
theorem refuses (a b : Pol.Lk) (left t id sent c i : Int) (d : List UInt8) (hc : 12 ≤ c ∧ c ≤ 255) (hi : 0 ≤ i ∧ i ≤ 255) (hd : d.length ≤ 2044) (hid : 0 ≤ id ∧ id ≤ 254) :
    take (at_ 9 a b left t id sent) (c, i, [], d) = (at_ 9 a b left t (id + 1) sent, [(7, id + 1, [], (Ctl.put (c, i, [], d)).take 64)], 0) := by
  unfold take
  rw [if_neg (by simp [code_bare c i d (by omega) hi hd]), if_neg (by simp [at_])]
  simp only [show ¬ (c = 1) by omega, show ¬ (c = 2) by omega, show ¬ (c = 3 ∨ c = 4) by omega, show ¬ (c = 5) by omega, show ¬ (c = 6) by omega, show ¬ (c = 7 ∨ c = 8) by omega, show ¬ (c = 9 ∨ c = 10 ∨ c = 11) by omega, if_false]
  unfold run
  rw [show (at_ 9 a b left t id sent).st = 9 from rfl, f912, if_pos rfl]
  have e1 : (id + 1) % 256 = id + 1 := by omega
  simp [acts, act, at_, e1]
/-- Down and up again: asked anew. -/
theorem anew (b a : Pol.Lk) (t ib : Int) (hb : Pol.may b = true) (hi : 0 ≤ ib ∧ ib ≤ 254) : step (step (mk 9 b a t t ib) 1).1 0 = (mk 6 b a (less t) t (ib + 1), [(1, ib + 1, Pol.asks b, [])], 0) ∧ (step (mk 9 b a t t ib) 1).2 = ([], 0) := by
  have h1 : step (mk 9 b a t t ib) 1 = (mk 1 b a t t ib, [], 0) := by
    unfold step
    rw [if_pos (show isEvent 1 = true from rfl), if_neg (by simp)]
    unfold run
    rw [show (mk 9 b a t t ib).st = 9 from rfl, f91, if_pos rfl]
    simp [acts, act, mk]
  rw [h1]
  refine ⟨?_, rfl⟩
  unfold step
  rw [if_pos (show isEvent 0 = true from rfl), if_neg (by simp)]
  unfold run
  simp only
  rw [show (mk 1 b a t t ib).st = 1 from rfl, f10, if_pos rfl]
  have e1 : (ib + 1) % 256 = ib + 1 := by omega
  simp [acts, act, mk, e1, ask_may b hb]
theorem go_good9 (own b o : Pol.Lk) (t id i : Int) (h : Fit b own) (hs : ¬ (b.short = true ∧ own.short = false)) (hi : 0 ≤ i ∧ i ≤ 255) (hid : 0 ≤ id ∧ id ≤ 254) :
    take (mk 9 own o t t id) (1, i, Pol.asks b, []) = (mk 8 own b (less t) t (id + 1), [(1, id + 1, Pol.asks own, []), (2, i, Pol.asks b, [])], 0) := by
  rw [take_good _ i b h hs (by simp [mk]) hi]
  unfold run
  rw [show (mk 9 own o t t id).st = 9 from rfl, f96, if_pos rfl]
  have e1 : (id + 1) % 256 = id + 1 := by omega
  simp [acts, act, mk, e1, Pol.taken_asks b h.1, ask_may own h.2.1]
/-- Two sides that were open, one of them asked anew. -/
def again (a b : Pol.Lk) (t ia ib : Int) : Script where
  xs := [mk 9 a b t t ia, mk 8 a b (less t) t (ia + 1), mk 9 a b t t (ia + 1)]
  ys := [mk 6 b a (less t) t (ib + 1), mk 8 b a (less t) t (ib + 1), mk 9 b a t t (ib + 1)]
  hx := [(1, ia + 1, Pol.asks a, []), (2, ib + 1, Pol.asks b, [])]
  hy := [(1, ib + 1, Pol.asks b, []), (2, ia + 1, Pol.asks a, [])]
  ox := [0, 2, 2]
  oy := [1, 2, 2]
theorem again_good (a b : Pol.Lk) (t ia ib : Int) (h : Fit a b) (h' : Fit b a) (hs : a.short = b.short) (hia : 0 ≤ ia ∧ ia ≤ 254) (hib : 0 ≤ ib ∧ ib ≤ 254) : Good (again a b t ia ib) := by
  have n1 : ¬ (a.short = true ∧ b.short = false) := by rw [hs]; cases b.short <;> simp
  have n2 : ¬ (b.short = true ∧ a.short = false) := by rw [hs]; cases b.short <;> simp
  refine ⟨rfl, rfl, rfl, rfl, ?_, ?_, ?_, ?_, ?_, ?_⟩
  · intro i hi
    match i, hi with
    | 0, _ => simp [again]
    | 1, _ => simp [again]
    | 2, _ => simp [again]
  · intro i hi
    match i, hi with
    | 0, _ => simp [again]
    | 1, _ => simp [again]
    | 2, _ => simp [again]
  · intro i hi
    match i, hi with
    | 0, _ => simp [again]
    | 1, _ => simp [again]
  · intro i hi
    match i, hi with
    | 0, _ => simp [again]
    | 1, _ => simp [again]
  · intro i hi
    match i, hi with
    | 0, _ => exact go_good9 a b b t ia (ib + 1) h' n2 (by omega) hia
    | 1, _ => exact go_ack8 a b (less t) t (ia + 1) h.1 (by omega)
  · intro i hi
    match i, hi with
    | 0, _ => exact go_good b a a (less t) t (ib + 1) (ia + 1) h n1 (by omega)
    | 1, _ => exact go_ack8 b a (less t) t (ib + 1) h.2.1 (by omega)
theorem again_rest (a b : Pol.Lk) (t ia ib : Int) (h : Fit a b) (h' : Fit b a) (hs : a.short = b.short) (hia : 0 ≤ ia ∧ ia ≤ 254) (hib : 0 ≤ ib ∧ ib ≤ 254) {i j : Nat} {x y : Side} (hA : At (again a b t ia ib) i j x y [] []) :
    x = mk 9 a b t t (ia + 1) ∧ y = mk 9 b a t t (ib + 1) := by
  obtain ⟨e1, e2⟩ := hA.rest (again_good a b t ia ib h h' hs hia hib)
  have hi := hA.hi
  have hj := hA.hj
  have ex := hA.ex
  have ey := hA.ey
  match i, j, hi, hj with
  | 0, 0, _, _ => simp [again] at e1
  | 0, 1, _, _ => simp [again] at e1
  | 0, 2, _, _ => simp [again] at e1
  | 1, 0, _, _ => simp [again] at e2
  | 1, 1, _, _ => simp [again] at e1
  | 1, 2, _, _ => simp [again] at e1
  | 2, 0, _, _ => simp [again] at e1
  | 2, 1, _, _ => simp [again] at e2
  | 2, 2, _, _ => exact ⟨ex, ey⟩
end Go.Proofs.YteabkmelnoefiaaGreatDoor.Ng
namespace Go.Proofs.YteabkmelnoefiaaGreatDoor.Ng
open Go.Proofs.YteabkmelnoefiaaGreatDoor
theorem opt_length (k x : Int) (m : Nat) : (Pol.opt k x m).length = if x = 0 then 0 else 1 := by
  unfold Pol.opt
  split <;> rfl
theorem asks_count (l : Pol.Lk) : (Pol.asks l).length = (if l.mru = 0 then 0 else 1) + (if l.magic = 0 then 0 else 1) + (if l.mrru = 0 then 0 else 1) + (if l.short then 1 else 0) + (if l.disc = [] then 0 else 1) + (if l.num = 0 then 0 else 1) := by
  unfold Pol.asks
  simp only [List.length_append, opt_length]
  congr 1
  congr 1
  · congr 1
    cases l.short <;> rfl
  · split <;> rfl
theorem refused (a : Pol.Lk) (ha : Pol.may a = true) (o : Pol.Op) (ho : o ∈ Pol.asks a) :
    ∃ a', Pol.learn Pl.nm a 4 [o] = (a', 0) ∧ Pol.may a' = true ∧ (Pol.asks a').length + 1 = (Pol.asks a).length := by
  have hr := Pol.right_asks a ha o ho
  obtain ⟨g1, g2, g3, g4, g5, g6, g7⟩ := (Pol.may_iff a).1 ha
  have s0 : Pol.size 0 = true := rfl
  refine ⟨Pol.without a o.1, ?_, ?_, ?_⟩
  · unfold Pol.learn
    rw [ha]
    simp [Pol.learns, Pol.lesson, hr]
  · rw [Pol.may_iff]
    rcases Pol.asks_mem a o ho with ⟨rfl, _⟩ | ⟨rfl, _⟩ | ⟨rfl, _⟩ | ⟨rfl, _⟩ | ⟨rfl, _⟩ | ⟨rfl, _⟩ <;> simp [Pol.without, g1, g2, g3, g4, g5, g6, g7, s0]
  · rw [asks_count, asks_count]
    rcases Pol.asks_mem a o ho with ⟨rfl, h⟩ | ⟨rfl, h⟩ | ⟨rfl, h⟩ | ⟨rfl, h⟩ | ⟨rfl, h⟩ | ⟨rfl, h⟩ <;> simp [Pol.without, h] <;> omega
/-- The side that asked once, refused one option, then acked. -/
theorem learns_one (a : Pol.Lk) (ha : Pol.may a = true) (t : Int) (o : Pol.Op) (ho : o ∈ Pol.asks a) :
    ∃ a', Pol.may a' = true ∧ (Pol.asks a').length + 1 = (Pol.asks a).length ∧ take (asking a t) (4, 1, [o], []) = (mk 6 a' Pol.zero (less t) t 2, [(1, 2, Pol.asks a', [])], 0) ∧
      (take (mk 6 a' Pol.zero (less t) t 2) (2, 2, Pol.asks a', [])).1.st = 7 ∧ (take (mk 6 a' Pol.zero (less t) t 2) (2, 2, Pol.asks a', [])).2 = ([], 0) := by
  obtain ⟨a', h1, h2, h3⟩ := refused a ha o ho
  refine ⟨a', h2, h3, ?_, ?_⟩
  · have hf := Pol.fit_right o (Pol.right_asks a ha o ho)
    have hk := Pol.asks_range a o ho
    have hc : Ctl.code (4, 1, [o], []) = 0 := code_few [o] 4 1 (by simpa using hk) (by unfold Pol.fit at hf; simp at hf; simp; omega) (by simp) (by omega) (by omega)
    have e : Fsm.step 6 9 = (6, [5, 7], 0) := by decide +kernel
    rw [asking_mk a ha]
    unfold take
    rw [if_neg (by simp [hc]), if_neg (by simp [mk]), if_neg (by simp), if_neg (by simp), if_pos (.inr rfl), if_pos (show ((4 : Int), (1 : Int), [o], ([] : List UInt8)).2.1 = (mk 6 a Pol.zero (less t) t 1).sent from rfl)]
    simp only [show (mk 6 a Pol.zero (less t) t 1).own = a from rfl, h1]
    unfold run
    simp only [show (mk 6 a Pol.zero (less t) t 1).st = 6 from rfl]
    rw [e, if_pos rfl]
    simp [acts, act, mk, ask_may a' h2]
  · rw [go_ack6 a' Pol.zero (less t) t 2 h2 (by omega)]
    exact ⟨rfl, rfl⟩
end Go.Proofs.YteabkmelnoefiaaGreatDoor.Ng
