/-
  The program's rules: each kind's method, whatever the kind. (gen_pr4.py)
  The program's row of rules: whether a link may be, which rule a kind has.
  The program's row of rules: which rule a kind has.
  The program's copies of options.
  The program's rejected options: how often a kind was seen, in a map of the call's own; what is bad.
  The program's rejected options: the walk.
-/
import Derived.Test.YteabkmelnoefiaaGreatDoorZ14
import Derived.Maps.OwnOps
import Derived.Maps.Views
import Derived.Deep.Onto
namespace Go.Proofs.YteabkmelnoefiaaGreatDoor.Pr
open Go.RowKit
def mayAt (l : Pol.Lk) (k : Nat) : Bool := match k with | 0 => Pol.size l.mru | 1 => decide (0 ≤ l.magic) && decide (l.magic < ((256 ^ 4 : Nat) : Int)) | 2 => Pol.size l.mrru | 3 => true | 4 => decide (l.disc.length ≤ 20) | _ => decide (0 ≤ l.num) && decide (l.num < ((256 ^ 2 : Nat) : Int))
def asksAt (l : Pol.Lk) (k : Nat) : Bool := match k with | 0 => l.mru != 0 | 1 => l.magic != 0 | 2 => l.mrru != 0 | 3 => l.short | 4 => !l.disc.isEmpty | _ => l.num != 0
def dataAt (l : Pol.Lk) (k : Nat) : List UInt8 := match k with | 0 => Pol.be 2 l.mru.toNat | 1 => Pol.be 4 l.magic.toNat | 2 => Pol.be 2 l.mrru.toNat | 3 => [] | 4 => l.disc | _ => Pol.be 2 l.num.toNat
def dropAt (l : Pol.Lk) (k : Nat) : Pol.Lk := match k with | 0 => { l with mru := 0 } | 1 => { l with magic := 0 } | 2 => { l with mrru := 0 } | 3 => { l with short := false } | 4 => { l with disc := [] } | _ => { l with num := 0 }
def takeAt (l : Pol.Lk) (k : Nat) (d : List UInt8) : Pol.Lk := match k with | 0 => { l with mru := nm d } | 1 => { l with magic := nm d } | 2 => { l with mrru := nm d } | 3 => { l with short := true } | 4 => { l with disc := d } | _ => { l with num := nm d }
def fitAt (k : Nat) (d : List UInt8) : Bool := match k with | 0 => d.length == 2 | 1 => d.length == 4 | 2 => d.length == 2 | 3 => d.isEmpty | 4 => !d.isEmpty && decide (d.length ≤ 20) | _ => d.length == 2
def goodAt (k : Nat) (d : List UInt8) : Bool := match k with | 0 => Pol.unit (nm d) | 1 => nm d != 0 | 2 => Pol.unit (nm d) | _ => true
def grantsAt (l : Pol.Lk) (k : Nat) : Bool := match k with | 3 => l.short | _ => true
def wishAt (l : Pol.Lk) (k : Nat) (d : List UInt8) : List UInt8 := match k with
  | 0 => if Pol.unit (nm d) then d else Pol.be 2 1500 | 1 => if nm d = 0 ∨ nm d = l.magic then Pol.be 4 (Pol.turn l.magic).toNat else d | 2 => if Pol.unit (nm d) then d else Pol.be 2 1500 | _ => d
/-- This function is the method of that name, over this receiver. -/
def Meth (g : Nat) (v : Value) (T : TypeId) (R : Value) (name : String) : Prop :=
  (∀ f W, (method (f + 1) T R name).run Tryz.prog W = .ok (g, v) W) ∧ ∀ args W, (callFunc g args).run Tryz.prog W = .ok (.enter g args) W
/-- The link's numbers are none below zero, its text is short. -/
def Plain (l : Pol.Lk) : Prop := 0 ≤ l.mru ∧ 0 ≤ l.magic ∧ 0 ≤ l.mrru ∧ 0 ≤ l.num ∧ l.disc.length ≤ 20 ∧ l.magic ≤ 4294967295
theorem kept_lnk {B k : Nat} {W w' : World} {l l' : Pol.Lk} {u : Value} (h : Pl.Lnk B W l) (e : Pl.lcs l' = (Pl.lcs l).set k u) (hw : Wrote B k u W w') : Pl.Lnk B w' l' ∧ W.grownBy w' (some B) := ⟨show Arr B w' (Pl.lcs l') from e ▸ hw.1 _ h, hw.2⟩
theorem m_may (B k : Nat) (hk : k < 6) : ∃ g v, Meth g v (tys k) (rcv B k) "withy/policy.mayBe" ∧ ∀ W l, Pl.Lnk B W l → Calls Tryz.prog g #[v] W fun e w' => e = .returned (.bool (mayAt l k)) ∧ Below W.heap.size W w' :=
  match k, hk with
  | 0, _ => ⟨164, num B 0 2, ⟨fun _ _ => by kernel_rfl, fun _ _ => by kernel_rfl⟩, fun _ l h => unit_may 2 _ (h.cell 0 _ rfl)⟩
  | 1, _ => ⟨159, num B 1 4, ⟨fun _ _ => by kernel_rfl, fun _ _ => by kernel_rfl⟩, fun _ l h => num_may 4 _ (by omega) (h.cell 1 _ rfl)⟩
  | 2, _ => ⟨164, num B 2 2, ⟨fun _ _ => by kernel_rfl, fun _ _ => by kernel_rfl⟩, fun _ l h => unit_may 2 _ (h.cell 2 _ rfl)⟩
  | 3, _ => ⟨174, one B 3, ⟨fun _ _ => by kernel_rfl, fun _ _ => by kernel_rfl⟩, fun _ l _ => short_may⟩
  | 4, _ => ⟨180, one B 4, ⟨fun _ _ => by kernel_rfl, fun _ _ => by kernel_rfl⟩, fun _ l h => disc_may _ (h.cell 4 _ rfl)⟩
  | 5, _ => ⟨159, num B 5 2, ⟨fun _ _ => by kernel_rfl, fun _ _ => by kernel_rfl⟩, fun _ l h => num_may 2 _ (by omega) (h.cell 5 _ rfl)⟩
theorem m_asks (B k : Nat) (hk : k < 6) : ∃ g v, Meth g v (tys k) (rcv B k) "withy/policy.asks" ∧ ∀ W l, Pl.Lnk B W l → Calls Tryz.prog g #[v] W fun e w' => e = .returned (.bool (asksAt l k)) ∧ Below W.heap.size W w' :=
  match k, hk with
  | 0, _ => ⟨155, num B 0 2, ⟨fun _ _ => by kernel_rfl, fun _ _ => by kernel_rfl⟩, fun _ l h => num_asks 2 _ (h.cell 0 _ rfl)⟩
  | 1, _ => ⟨155, num B 1 4, ⟨fun _ _ => by kernel_rfl, fun _ _ => by kernel_rfl⟩, fun _ l h => num_asks 4 _ (h.cell 1 _ rfl)⟩
  | 2, _ => ⟨155, num B 2 2, ⟨fun _ _ => by kernel_rfl, fun _ _ => by kernel_rfl⟩, fun _ l h => num_asks 2 _ (h.cell 2 _ rfl)⟩
  | 3, _ => ⟨169, one B 3, ⟨fun _ _ => by kernel_rfl, fun _ _ => by kernel_rfl⟩, fun _ l h => short_asks _ (h.cell 3 _ rfl)⟩
  | 4, _ => ⟨176, one B 4, ⟨fun _ _ => by kernel_rfl, fun _ _ => by kernel_rfl⟩, fun _ l h => disc_asks _ (h.cell 4 _ rfl)⟩
  | 5, _ => ⟨155, num B 5 2, ⟨fun _ _ => by kernel_rfl, fun _ _ => by kernel_rfl⟩, fun _ l h => num_asks 2 _ (h.cell 5 _ rfl)⟩
theorem m_data (B k : Nat) (hk : k < 6) : ∃ g v, Meth g v (tys k) (rcv B k) "withy/policy.data" ∧ ∀ W l, Pl.Lnk B W l → Plain l → Calls Tryz.prog g #[v] W fun e w' => e = .returned (.string ⟨(dataAt l k).toArray⟩) ∧ Below W.heap.size W w' :=
  match k, hk with
  | 0, _ => ⟨156, num B 0 2, ⟨fun _ _ => by kernel_rfl, fun _ _ => by kernel_rfl⟩, fun W l h p => num_data 2 l.mru.toNat (by omega) (by rw [Int.toNat_of_nonneg p.1]; exact h.cell 0 _ rfl)⟩
  | 1, _ => ⟨156, num B 1 4, ⟨fun _ _ => by kernel_rfl, fun _ _ => by kernel_rfl⟩, fun W l h p => num_data 4 l.magic.toNat (by omega) (by rw [Int.toNat_of_nonneg p.2.1]; exact h.cell 1 _ rfl)⟩
  | 2, _ => ⟨156, num B 2 2, ⟨fun _ _ => by kernel_rfl, fun _ _ => by kernel_rfl⟩, fun W l h p => num_data 2 l.mrru.toNat (by omega) (by rw [Int.toNat_of_nonneg p.2.2.1]; exact h.cell 2 _ rfl)⟩
  | 3, _ => ⟨170, one B 3, ⟨fun _ _ => by kernel_rfl, fun _ _ => by kernel_rfl⟩, fun _ l _ _ => short_data⟩
  | 4, _ => ⟨177, one B 4, ⟨fun _ _ => by kernel_rfl, fun _ _ => by kernel_rfl⟩, fun _ l h p => disc_data l.disc (by have := p.2.2.2.2.1; omega) (h.cell 4 _ rfl)⟩
  | 5, _ => ⟨156, num B 5 2, ⟨fun _ _ => by kernel_rfl, fun _ _ => by kernel_rfl⟩, fun W l h p => num_data 2 l.num.toNat (by omega) (by rw [Int.toNat_of_nonneg p.2.2.2.1]; exact h.cell 5 _ rfl)⟩
theorem m_drop (B k : Nat) (hk : k < 6) : ∃ g v, Meth g v (tys k) (rcv B k) "withy/policy.drop" ∧ ∀ W l, Pl.Lnk B W l → Calls Tryz.prog g #[v] W fun e w' => e = .returned (.tuple #[]) ∧ Pl.Lnk B w' (dropAt l k) ∧ W.grownBy w' (some B) :=
  match k, hk with
  | 0, _ => ⟨157, num B 0 2, ⟨fun _ _ => by kernel_rfl, fun _ _ => by kernel_rfl⟩, fun W l h => (num_drop 2 _ (h.cell 0 _ rfl) (h.frozen 0)).mono (fun e w' hh => ⟨hh.1, kept_lnk (l' := dropAt l 0) h rfl hh.2⟩)⟩
  | 1, _ => ⟨157, num B 1 4, ⟨fun _ _ => by kernel_rfl, fun _ _ => by kernel_rfl⟩, fun W l h => (num_drop 4 _ (h.cell 1 _ rfl) (h.frozen 1)).mono (fun e w' hh => ⟨hh.1, kept_lnk (l' := dropAt l 1) h rfl hh.2⟩)⟩
  | 2, _ => ⟨157, num B 2 2, ⟨fun _ _ => by kernel_rfl, fun _ _ => by kernel_rfl⟩, fun W l h => (num_drop 2 _ (h.cell 2 _ rfl) (h.frozen 2)).mono (fun e w' hh => ⟨hh.1, kept_lnk (l' := dropAt l 2) h rfl hh.2⟩)⟩
  | 3, _ => ⟨171, one B 3, ⟨fun _ _ => by kernel_rfl, fun _ _ => by kernel_rfl⟩, fun W l h => (short_drop _ (h.cell 3 _ rfl) (h.frozen 3)).mono (fun e w' hh => ⟨hh.1, kept_lnk (l' := dropAt l 3) h rfl hh.2⟩)⟩
  | 4, _ => ⟨178, one B 4, ⟨fun _ _ => by kernel_rfl, fun _ _ => by kernel_rfl⟩, fun W l h => (disc_drop _ (h.cell 4 _ rfl) (h.frozen 4)).mono (fun e w' hh => ⟨hh.1, kept_lnk (l' := dropAt l 4) h rfl hh.2⟩)⟩
  | 5, _ => ⟨157, num B 5 2, ⟨fun _ _ => by kernel_rfl, fun _ _ => by kernel_rfl⟩, fun W l h => (num_drop 2 _ (h.cell 5 _ rfl) (h.frozen 5)).mono (fun e w' hh => ⟨hh.1, kept_lnk (l' := dropAt l 5) h rfl hh.2⟩)⟩
theorem m_take (B k : Nat) (hk : k < 6) : ∃ g v, Meth g v (tys k) (rcv B k) "withy/policy.take" ∧ ∀ W l (d : List UInt8), Pl.Lnk B W l → d.length ≤ 140737488355328 → Calls Tryz.prog g #[v, .string ⟨d.toArray⟩] W fun e w' => e = .returned (.tuple #[]) ∧ Pl.Lnk B w' (takeAt l k d) ∧ W.grownBy w' (some B) :=
  match k, hk with
  | 0, _ => ⟨160, num B 0 2, ⟨fun _ _ => by kernel_rfl, fun _ _ => by kernel_rfl⟩, fun W l d h hd => (num_take 2 _ d hd (h.cell 0 _ rfl) (h.frozen 0)).mono (fun e w' hh => ⟨hh.1, kept_lnk (l' := takeAt l 0 d) h rfl hh.2⟩)⟩
  | 1, _ => ⟨160, num B 1 4, ⟨fun _ _ => by kernel_rfl, fun _ _ => by kernel_rfl⟩, fun W l d h hd => (num_take 4 _ d hd (h.cell 1 _ rfl) (h.frozen 1)).mono (fun e w' hh => ⟨hh.1, kept_lnk (l' := takeAt l 1 d) h rfl hh.2⟩)⟩
  | 2, _ => ⟨160, num B 2 2, ⟨fun _ _ => by kernel_rfl, fun _ _ => by kernel_rfl⟩, fun W l d h hd => (num_take 2 _ d hd (h.cell 2 _ rfl) (h.frozen 2)).mono (fun e w' hh => ⟨hh.1, kept_lnk (l' := takeAt l 2 d) h rfl hh.2⟩)⟩
  | 3, _ => ⟨175, one B 3, ⟨fun _ _ => by kernel_rfl, fun _ _ => by kernel_rfl⟩, fun W l d h _ => (short_take _ d (h.cell 3 _ rfl) (h.frozen 3)).mono (fun e w' hh => ⟨hh.1, kept_lnk (l' := takeAt l 3 d) h rfl hh.2⟩)⟩
  | 4, _ => ⟨181, one B 4, ⟨fun _ _ => by kernel_rfl, fun _ _ => by kernel_rfl⟩, fun W l d h hd => (disc_take _ d hd (h.cell 4 _ rfl) (h.frozen 4)).mono (fun e w' hh => ⟨hh.1, kept_lnk (l' := takeAt l 4 d) h rfl hh.2⟩)⟩
  | 5, _ => ⟨160, num B 5 2, ⟨fun _ _ => by kernel_rfl, fun _ _ => by kernel_rfl⟩, fun W l d h hd => (num_take 2 _ d hd (h.cell 5 _ rfl) (h.frozen 5)).mono (fun e w' hh => ⟨hh.1, kept_lnk (l' := takeAt l 5 d) h rfl hh.2⟩)⟩
theorem m_fits (B k : Nat) (hk : k < 6) : ∃ g v, Meth g v (tys k) (rcv B k) "withy/policy.fits" ∧ ∀ W (d : List UInt8), Calls Tryz.prog g #[v, .string ⟨d.toArray⟩] W fun e w' => e = .returned (.bool (fitAt k d)) ∧ Below W.heap.size W w' :=
  match k, hk with
  | 0, _ => ⟨158, num B 0 2, ⟨fun _ _ => by kernel_rfl, fun _ _ => by kernel_rfl⟩, fun _ d => num_fits 2 d⟩
  | 1, _ => ⟨158, num B 1 4, ⟨fun _ _ => by kernel_rfl, fun _ _ => by kernel_rfl⟩, fun _ d => num_fits 4 d⟩
  | 2, _ => ⟨158, num B 2 2, ⟨fun _ _ => by kernel_rfl, fun _ _ => by kernel_rfl⟩, fun _ d => num_fits 2 d⟩
  | 3, _ => ⟨172, one B 3, ⟨fun _ _ => by kernel_rfl, fun _ _ => by kernel_rfl⟩, fun _ d => short_fits d⟩
  | 4, _ => ⟨179, one B 4, ⟨fun _ _ => by kernel_rfl, fun _ _ => by kernel_rfl⟩, fun _ d => disc_fits d⟩
  | 5, _ => ⟨158, num B 5 2, ⟨fun _ _ => by kernel_rfl, fun _ _ => by kernel_rfl⟩, fun _ d => num_fits 2 d⟩
theorem m_good (B k : Nat) (hk : k < 6) : ∃ g v, Meth g v (tys k) (rcv B k) "withy/policy.good" ∧ ∀ W (d : List UInt8), d.length ≤ 140737488355328 → Calls Tryz.prog g #[v, .string ⟨d.toArray⟩] W fun e w' => e = .returned (.bool (goodAt k d)) ∧ Below W.heap.size W w' :=
  match k, hk with
  | 0, _ => ⟨163, num B 0 2, ⟨fun _ _ => by kernel_rfl, fun _ _ => by kernel_rfl⟩, fun _ d hd => unit_good 2 d hd⟩
  | 1, _ => ⟨167, num B 1 4, ⟨fun _ _ => by kernel_rfl, fun _ _ => by kernel_rfl⟩, fun _ d hd => magic_good 4 d hd⟩
  | 2, _ => ⟨163, num B 2 2, ⟨fun _ _ => by kernel_rfl, fun _ _ => by kernel_rfl⟩, fun _ d hd => unit_good 2 d hd⟩
  | 3, _ => ⟨152, .agg #[], ⟨fun _ _ => by kernel_rfl, fun _ _ => by kernel_rfl⟩, fun _ d _ => easy_good d⟩
  | 4, _ => ⟨152, .agg #[], ⟨fun _ _ => by kernel_rfl, fun _ _ => by kernel_rfl⟩, fun _ d _ => easy_good d⟩
  | 5, _ => ⟨152, .agg #[], ⟨fun _ _ => by kernel_rfl, fun _ _ => by kernel_rfl⟩, fun _ d _ => easy_good d⟩
theorem m_grants (B k : Nat) (hk : k < 6) : ∃ g v, Meth g v (tys k) (rcv B k) "withy/policy.grants" ∧ ∀ W l, Pl.Lnk B W l → Calls Tryz.prog g #[v] W fun e w' => e = .returned (.bool (grantsAt l k)) ∧ Below W.heap.size W w' :=
  match k, hk with
  | 0, _ => ⟨153, .agg #[], ⟨fun _ _ => by kernel_rfl, fun _ _ => by kernel_rfl⟩, fun _ l _ => easy_grants⟩
  | 1, _ => ⟨153, .agg #[], ⟨fun _ _ => by kernel_rfl, fun _ _ => by kernel_rfl⟩, fun _ l _ => easy_grants⟩
  | 2, _ => ⟨153, .agg #[], ⟨fun _ _ => by kernel_rfl, fun _ _ => by kernel_rfl⟩, fun _ l _ => easy_grants⟩
  | 3, _ => ⟨173, one B 3, ⟨fun _ _ => by kernel_rfl, fun _ _ => by kernel_rfl⟩, fun _ l h => short_grants _ (h.cell 3 _ rfl)⟩
  | 4, _ => ⟨153, .agg #[], ⟨fun _ _ => by kernel_rfl, fun _ _ => by kernel_rfl⟩, fun _ l _ => easy_grants⟩
  | 5, _ => ⟨153, .agg #[], ⟨fun _ _ => by kernel_rfl, fun _ _ => by kernel_rfl⟩, fun _ l _ => easy_grants⟩
theorem m_wish (B k : Nat) (hk : k < 6) : ∃ g v, Meth g v (tys k) (rcv B k) "withy/policy.wish" ∧ ∀ W l (d : List UInt8), Pl.Lnk B W l → Plain l → d.length ≤ 140737488355328 → Calls Tryz.prog g #[v, .string ⟨d.toArray⟩] W fun e w' => e = .returned (.string ⟨(wishAt l k d).toArray⟩) ∧ Below W.heap.size W w' :=
  match k, hk with
  | 0, _ => ⟨165, num B 0 2, ⟨fun _ _ => by kernel_rfl, fun _ _ => by kernel_rfl⟩, fun _ l d _ _ hd => unit_wish d hd⟩
  | 1, _ => ⟨168, num B 1 4, ⟨fun _ _ => by kernel_rfl, fun _ _ => by kernel_rfl⟩, fun _ l d h p hd => magic_wish _ d hd p.2.1 p.2.2.2.2.2 (h.cell 1 _ rfl)⟩
  | 2, _ => ⟨165, num B 2 2, ⟨fun _ _ => by kernel_rfl, fun _ _ => by kernel_rfl⟩, fun _ l d _ _ hd => unit_wish d hd⟩
  | 3, _ => ⟨154, .agg #[], ⟨fun _ _ => by kernel_rfl, fun _ _ => by kernel_rfl⟩, fun _ l d _ _ _ => easy_wish d⟩
  | 4, _ => ⟨154, .agg #[], ⟨fun _ _ => by kernel_rfl, fun _ _ => by kernel_rfl⟩, fun _ l d _ _ _ => easy_wish d⟩
  | 5, _ => ⟨154, .agg #[], ⟨fun _ _ => by kernel_rfl, fun _ _ => by kernel_rfl⟩, fun _ l d _ _ _ => easy_wish d⟩
end Go.Proofs.YteabkmelnoefiaaGreatDoor.Pr
namespace Go.Proofs.YteabkmelnoefiaaGreatDoor.Pr
open Go.RowKit
theorem may_all (l : Pol.Lk) (h : ∀ j, j < 6 → mayAt l j = true) : Pol.may l = true := by
  have h0 := h 0 (by omega)
  have h1 := h 1 (by omega)
  have h2 := h 2 (by omega)
  have h4 := h 4 (by omega)
  have h5 := h 5 (by omega)
  simp only [mayAt, Bool.and_eq_true, decide_eq_true_eq] at h0 h1 h2 h4 h5
  rw [Pol.may_iff]
  exact ⟨h0, h2, h1.1, by have := h1.2; omega, h4, h5.1, by have := h5.2; omega⟩
theorem all_may (l : Pol.Lk) (h : Pol.may l = true) : ∀ j, j < 6 → mayAt l j = true := by
  rw [Pol.may_iff] at h
  obtain ⟨h0, h2, h1, h1', h4, h5, h5'⟩ := h
  intro j hj
  match j, hj with
  | 0, _ => exact h0
  | 1, _ => simp only [mayAt, Bool.and_eq_true, decide_eq_true_eq]; omega
  | 2, _ => exact h2
  | 3, _ => rfl
  | 4, _ => simp only [mayAt, decide_eq_true_eq]; omega
  | 5, _ => simp only [mayAt, Bool.and_eq_true, decide_eq_true_eq]; omega
theorem may_not (l : Pol.Lk) (k : Nat) (hk : k < 6) (h : mayAt l k = false) : Pol.may l = false := by
  cases hm : Pol.may l
  · rfl
  · rw [all_may l hm k hk] at h
    cases h
theorem may_plain (l : Pol.Lk) (h : Pol.may l = true) : Plain l := by
  rw [Pol.may_iff] at h
  obtain ⟨h0, h2, h1, h1', h4, h5, h5'⟩ := h
  have hs : ∀ x, Pol.size x = true → 0 ≤ x := by
    intro x hx
    simp only [Pol.size, Pol.unit, Bool.or_eq_true, Bool.and_eq_true, beq_iff_eq, decide_eq_true_eq] at hx
    omega
  exact ⟨hs _ h0, h1, hs _ h2, h5, h4, h1'⟩
/-- The place of number k, its parts by names of their own. -/
def Plc (B k : Nat) (SC : Array Value) (T : TypeId) (R : Value) (z : Int) : Prop := k < 6 ∧ SC = (scs B).toArray ∧ T = tys k ∧ R = rcv B k ∧ z = kind k
theorem plc {B k : Nat} {SC : Array Value} (hk : k < 6) (e : SC = (scs B).toArray) : ∃ T R z, Plc B k SC T R z := ⟨_, _, _, hk, e, rfl, rfl, rfl⟩
section
variable {ops : Array Oper} {rest : List Oper} {o : Oper} {a : Act} {Q : Exit → Act → World → Prop} {w : World}
theorem step_place {B k : Nat} {SC : Array Value} {T : TypeId} {R : Value} {z : Int} (hP : Plc B k SC T R z) (hgd : o.guard = none) (x y : Operand) (ho : o.op = .index 97 x y) (hx : a.eval x = .agg SC) (hy : a.eval y = .int .i64 (k : Int))
    (h : wpList Tryz.prog ops Q rest (a.put o.dst (.agg #[.int .i64 z, .iface T R])) w) : wpList Tryz.prog ops Q (o :: rest) a w := by
  obtain ⟨hk, rfl, rfl, rfl, rfl⟩ := hP
  exact wpList_place hgd x y ho B k hk hx hy h
end
theorem side_box (B : Nat) (w : World) : Arr w.heap.size (w.alloc (.cells (scs B).toArray 97)) (scs B) := Arr.new w (scs B) 97
set_option maxHeartbeats 1600000 in
set_option maxRecDepth 100000 in
theorem side_may (B : Nat) (l : Pol.Lk) (w : World) (h : Pl.Lnk B w l) : Calls Tryz.prog 49 #[.agg (scs B).toArray] w fun e w' => e = .returned (.bool (Pol.may l)) ∧ Below w.heap.size w w' := by
  have HL := Lib.hid h
  have LD := Lib.hid (side_load (side_box B w))
  have HB := Lib.hid ((Below.refl w.heap.size w).alloc (Nat.le_refl _) (.cells (scs B).toArray 97))
  clear h
  obtain ⟨SC, hSC⟩ : ∃ SC, SC = (scs B).toArray := ⟨_, rfl⟩
  rw [← hSC] at LD HB ⊢
  have HSC := Lib.hid hSC
  clear hSC
  go_enter Tryz.func49, Tryz.ntmps49
  go_wp2_with (refine wpList_load rfl 97 _ rfl ⟨w.heap.size, 0, none⟩ _ rfl LD.out ?_)
  go_loopw [6] (fun i wr => ∃ k : Nat, k ≤ 6 ∧ i = .int .i64 (k : Int) ∧ (∀ j, j < k → mayAt l j = true) ∧ Below w.heap.size w wr) (fun i _ => 6 - (intOf i).toNat)
  case atStart => exact ⟨0, by omega, rfl, fun j hj => absurd hj (Nat.not_lt_zero _), HB.out⟩
  case round =>
    clear LD HB
    obtain ⟨k, hk, rfl, ha, hb⟩ := hrel
    have HA := Lib.hid ha
    have HB := Lib.hid hb
    clear ha hb
    by_cases hlt : k < 6
    · obtain ⟨T, R, z, hp⟩ := plc (B := B) hlt HSC.out
      obtain ⟨g, v, hm, hc⟩ := m_may B k hlt
      rw [← hp.2.2.1, ← hp.2.2.2.1] at hm
      obtain ⟨m1, m2⟩ := hm
      have HC := Lib.hid hc
      have HP := Lib.hid hp
      clear hc hp
      cases hm : mayAt l k
      · have HM := Lib.hid (may_not l k hlt hm)
        have HC : Hid (∀ W, Pl.Lnk B W l → Calls Tryz.prog g #[v] W fun e w' => e = .returned (.bool false) ∧ Below W.heap.size W w') := Lib.hid (hm ▸ fun W => HC.out W l)
        clear hm
        go_wp2_with (first | (refine step_place HP.out rfl _ _ rfl rfl rfl ?_) | (go_at_fn g; refine (HC.out _ (HL.out.below (HB.out.alloc HB.out.size _))).mono ?_; rintro e w2 ⟨rfl, hb2⟩))
        go_ret
        exact ⟨ret_bool HM.out.symm, bel2 (HB.out.alloc HB.out.size _) hb2⟩
      · have HC : Hid (∀ W, Pl.Lnk B W l → Calls Tryz.prog g #[v] W fun e w' => e = .returned (.bool true) ∧ Below W.heap.size W w') := Lib.hid (hm ▸ fun W => HC.out W l)
        have HM := Lib.hid hm
        clear hm
        go_wp2_with (first | (refine step_place HP.out rfl _ _ rfl rfl rfl ?_) | (go_at_fn g; refine (HC.out _ (HL.out.below (HB.out.alloc HB.out.size _))).mono ?_; rintro e w2 ⟨rfl, hb2⟩))
        have HB2 := Lib.hid (bel2 (HB.out.alloc HB.out.size _) hb2)
        clear hb2
        go_roundw
        case rel =>
          refine ⟨k + 1, by omega, by go_num, fun j hj => ?_, HB2.out⟩
          by_cases e : j = k
          · subst e; exact HM.out
          · exact HA.out j (by omega)
        case measure => simp [intOf]; omega
    · obtain rfl : k = 6 := by omega
      have HM := Lib.hid (may_all l HA.out)
      go_wp2_with fail
      go_ret
      exact ⟨ret_bool HM.out.symm, HB.out⟩
end Go.Proofs.YteabkmelnoefiaaGreatDoor.Pr
namespace Go.Proofs.YteabkmelnoefiaaGreatDoor.Pr
open Go.RowKit
/-- Which of the six a kind is; six if it is none. -/
def at' (z : Int) : Nat := if z = 1 then 0 else if z = 5 then 1 else if z = 17 then 2 else if z = 18 then 3 else if z = 19 then 4 else if z = 23 then 5 else 6
theorem at_kind (k : Nat) (hk : k < 6) : at' (kind k) = k := by
  match k, hk with
  | 0, _ => rfl
  | 1, _ => rfl
  | 2, _ => rfl
  | 3, _ => rfl
  | 4, _ => rfl
  | 5, _ => rfl
theorem kind_at (z : Int) (h : at' z < 6) : kind (at' z) = z := by
  unfold at' at *
  split
  · subst z; rfl
  · split
    · subst z; rfl
    · split
      · subst z; rfl
      · split
        · subst z; rfl
        · split
          · subst z; rfl
          · split
            · subst z; rfl
            · simp_all
theorem at_le (z : Int) : at' z ≤ 6 := by
  unfold at'
  repeat (first | omega | split)
def found (B n : Nat) : Value := if n < 6 then .tuple #[.iface (tys n) (rcv B n), .bool true] else .tuple #[.nilIface, .bool false]
theorem ret_eq {a b : Value} (h : a = b) : Ending.returned a = .returned b := by rw [h]
set_option maxHeartbeats 1600000 in
set_option maxRecDepth 100000 in
theorem rule_any (B : Nat) (y : Int) (w : World) : Calls Tryz.prog 104 #[.agg (scs B).toArray, .int .i64 y] w fun e w' => e = .returned (found B (at' y)) ∧ Below w.heap.size w w' := by
  have LD := Lib.hid (side_load (side_box B w))
  have HB := Lib.hid ((Below.refl w.heap.size w).alloc (Nat.le_refl _) (.cells (scs B).toArray 97))
  obtain ⟨SC, hSC⟩ : ∃ SC, SC = (scs B).toArray := ⟨_, rfl⟩
  rw [← hSC] at LD HB ⊢
  have HSC := Lib.hid hSC
  have AL := Lib.hid (at_le y)
  clear hSC
  go_enter Tryz.func104, Tryz.ntmps104
  go_wp2_with (refine wpList_load rfl 97 _ rfl ⟨w.heap.size, 0, none⟩ _ rfl LD.out ?_)
  go_loopw [9] (fun i wr => ∃ k : Nat, k ≤ 6 ∧ i = .int .i64 (k : Int) ∧ k ≤ at' y ∧ Below w.heap.size w wr) (fun i _ => 6 - (intOf i).toNat)
  case atStart => exact ⟨0, by omega, rfl, Nat.zero_le _, HB.out⟩
  case round =>
    clear LD HB
    obtain ⟨k, hk, rfl, ha, hb⟩ := hrel
    have HA := Lib.hid ha
    have HB := Lib.hid hb
    clear ha hb
    by_cases hlt : k < 6
    · obtain ⟨T, R, z, hp⟩ := plc (B := B) hlt HSC.out
      have HP := Lib.hid hp
      clear hp
      cases hm : (z == y)
      · have hk1 : k + 1 ≤ at' y := by
          have h1 := HA.out
          by_cases e : k = at' y
          · have h2 := kind_at y (by omega)
            rw [← e, ← HP.out.2.2.2.2] at h2
            rw [h2] at hm
            simp at hm
          · omega
        have HA2 := Lib.hid hk1
        clear hk1
        go_wp2_with (first | (refine step_place HP.out rfl _ _ rfl rfl rfl ?_))
        have HB2 := Lib.hid (HB.out.alloc HB.out.size (.cells #[.int .i64 z, .iface T R] 95))
        go_roundw
        case rel => exact ⟨k + 1, by omega, by go_num, HA2.out, HB2.out⟩
        case measure => simp [intOf]; omega
      · have hk1 : at' y = k := by
          rw [← beq_iff_eq.1 hm, HP.out.2.2.2.2]
          exact at_kind k hlt
        have HF : Hid (found B (at' y) = .tuple #[.iface T R, .bool true]) := Lib.hid (by
          rw [hk1, HP.out.2.2.1, HP.out.2.2.2.1]
          exact if_pos hlt)
        clear hk1
        go_wp2_with (first | (refine step_place HP.out rfl _ _ rfl rfl rfl ?_))
        go_returns
        exact ⟨ret_eq HF.out.symm, HB.out.alloc HB.out.size _⟩
    · obtain rfl : k = 6 := by omega
      have HF : Hid (found B (at' y) = .tuple #[.nilIface, .bool false]) := Lib.hid (by
        have h1 := HA.out
        unfold found
        rw [if_neg (by omega)])
      go_wp2_with fail
      go_returns
      exact ⟨ret_eq HF.out.symm, HB.out⟩
theorem rule_hit (B k : Nat) (hk : k < 6) (w : World) : Calls Tryz.prog 104 #[.agg (scs B).toArray, .int .i64 (kind k)] w fun e w' => e = .returned (.tuple #[.iface (tys k) (rcv B k), .bool true]) ∧ Below w.heap.size w w' := by
  have h := rule_any B (kind k) w
  rw [at_kind k hk, show found B k = .tuple #[.iface (tys k) (rcv B k), .bool true] from if_pos hk] at h
  exact h
theorem rule_miss (B : Nat) (y : Int) (hy : ¬ at' y < 6) (w : World) : Calls Tryz.prog 104 #[.agg (scs B).toArray, .int .i64 y] w fun e w' => e = .returned (.tuple #[.nilIface, .bool false]) ∧ Below w.heap.size w w' := by
  have h := rule_any B y w
  rw [show found B (at' y) = .tuple #[.nilIface, .bool false] from if_neg hy] at h
  exact h
end Go.Proofs.YteabkmelnoefiaaGreatDoor.Pr
namespace Go.Proofs.YteabkmelnoefiaaGreatDoor.Pr
open Go.RowKit
def ov (z : Int) (d : List UInt8) : Value := .agg #[.int .i64 z, .string ⟨d.toArray⟩]
set_option maxHeartbeats 1600000 in
set_option maxRecDepth 100000 in
theorem copy_any (z : Int) (d : List UInt8) (hd : d.length ≤ 140737488355328) (w : World) : Calls Tryz.prog 113 #[ov z d] w fun e w' => e = .returned (ov z d) ∧ Below w.heap.size w w' := by
  have CA := Lib.hid fun W => clone_any ⟨d.toArray⟩ W (by rw [sz]; omega)
  obtain ⟨w2, hw2⟩ : ∃ w2, w2 = (w.alloc (.cells #[.int .i64 z, .string ⟨d.toArray⟩] 82)).alloc (.cells #[.int .i64 0, .string ⟨#[]⟩] 82) := ⟨_, rfl⟩
  have HB := Lib.hid (hw2 ▸ ((Below.refl w.heap.size w).alloc (Nat.le_refl _) (.cells #[.int .i64 z, .string ⟨d.toArray⟩] 82)).alloc (by simp) (.cells #[.int .i64 0, .string ⟨#[]⟩] 82) : Below w.heap.size w w2)
  have hA : Arr w.heap.size w2 [.int .i64 z, .string ⟨d.toArray⟩] := hw2 ▸ (Arr.new w [.int .i64 z, .string ⟨d.toArray⟩] 82).below ((Below.refl _ _).alloc (Nat.le_refl _) _)
  have hR : Arr (w.heap.size + 1) w2 [.int .i64 0, .string ⟨#[]⟩] := by
    have h := Arr.new (w.alloc (.cells #[.int .i64 z, .string ⟨d.toArray⟩] 82)) [.int .i64 0, .string ⟨#[]⟩] 82
    rw [hw2]
    simpa using h
  have F : Hid (∀ v1, Below w2.heap.size w2 v1 → v1.cell? ⟨w.heap.size, 0, none⟩ = some (.int .i64 z) ∧ v1.cell? ⟨w.heap.size, 1, none⟩ = some (.string ⟨d.toArray⟩) ∧
      v1.cell? ⟨w.heap.size + 1, 0, none⟩ = some (.int .i64 0) ∧ v1.cell? ⟨w.heap.size + 1, 1, none⟩ = some (.string ⟨#[]⟩) ∧ v1.frozen? ⟨w.heap.size + 1, 0, none⟩ = false ∧ v1.frozen? ⟨w.heap.size + 1, 1, none⟩ = false ∧ w.heap.size + 1 < v1.heap.size ∧ Below w2.heap.size w2 v1) := Lib.hid fun v1 hb => by
    have h1 := hA.below hb
    have h2 := hR.below hb
    exact ⟨h1.cell 0 _ rfl, h1.cell 1 _ rfl, h2.cell 0 _ rfl, h2.cell 1 _ rfl, h2.frozen 0, h2.frozen 1, h2.lt, hb⟩
  clear hA hR
  unfold ov
  go_enter Tryz.func113, Tryz.ntmps113
  go_wp2_with fail
  rw [← hw2]
  clear hw2
  obtain ⟨k0, k1, k2, k3, k4, k5, k6, k7⟩ := F.out w2 (Below.refl _ _)
  first | (go_region_with (go_at_call 50; (refine (CA.out _).mono ?_); rintro e v1 ⟨rfl, hb⟩; obtain ⟨m0, m1, m2, m3, m4, m5, m6, m7⟩ := F.out v1 ⟨hb.os, hb.tape, hb.output, hb.size, hb.block⟩)) | fail
  all_goals
    go_wp2_with fail
    have r0 : (v1.setCell ⟨w.heap.size + 1, 0, none⟩ (.int .i64 z)).cell? ⟨w.heap.size + 1, 0, none⟩ = some (.int .i64 z) := World.cell?_setCell_same _ _ _ m2
    have r1 : ((v1.setCell ⟨w.heap.size + 1, 0, none⟩ (.int .i64 z)).setCell ⟨w.heap.size + 1, 1, none⟩ (.string ⟨d.toArray⟩)).cell? ⟨w.heap.size + 1, 1, none⟩ = some (.string ⟨d.toArray⟩) := World.cell?_setCell_same _ _ _ (by rw [World.cell?_setCell_other _ _ _ _ (by simp)]; exact m3)
    refine bodyPost_ret (v := .agg #[.int .i64 z, .string ⟨d.toArray⟩]) (by simp [results, Tryz.results113, go_sem, r0, r1]) rfl ?_
    have hq := Below.setCell (p := ⟨w.heap.size + 1, 1, none⟩) (Below.setCell (p := ⟨w.heap.size + 1, 0, none⟩) (bel2 HB.out m7) (Nat.le_succ _) (.int .i64 z)) (Nat.le_succ _) (.string ⟨d.toArray⟩)
    first | exact ⟨rfl, hq⟩ | exact ⟨rfl, hq.drew⟩
set_option maxHeartbeats 1600000 in
set_option maxRecDepth 100000 in
theorem copied_any (v : Value) (os : List Opt.Op) (w : World) (hr : ReadsO w v os) (hl : os.length * 24 ≤ 140737488351232) (hd : ∀ o ∈ os, o.2.length ≤ 140737488355328) :
    Calls Tryz.prog 103 #[v] w fun e w' => ∃ u, e = .returned u ∧ OwnsO w w' u os := by
  have HR := Lib.hid hr
  obtain ⟨q, cap, b, off, rfl, _, _, hi, hc⟩ := hr.at
  have HI := Lib.hid hi
  have HC := Lib.hid hc
  have HD := Lib.hid hd
  clear hi hc hr hd
  go_enter Tryz.func103, Tryz.ntmps103
  go_wp2_with fail
  go_loopw [3, 8] (fun u i wr => ∃ k : Nat, k ≤ os.length ∧ i = .int .i64 (k : Int) ∧ OwnsO w wr u (os.take k)) (fun _ i _ => os.length - (intOf i).toNat)
  case atStart => exact ⟨0, Nat.zero_le _, rfl, OwnsO.nil w⟩
  case round =>
    obtain ⟨k, hk, rfl, ho⟩ := hrel
    have HO := Lib.hid ho
    clear ho
    by_cases hlt : k < os.length
    · have hi := HI.out k hlt
      obtain ⟨c0, c1⟩ := HC.out k hlt
      rw [← HO.out.2.cell (block_lt_of_cell c0)] at c0
      rw [← HO.out.2.cell (block_lt_of_cell c1)] at c1
      have hdk := HD.out os[k] (List.getElem_mem hlt)
      have HT : Hid (os.take (k + 1) = os.take k ++ [os[k]]) := Lib.hid (List.take_succ_eq_append_getElem hlt)
      have hlk : (os.take k).length = k := List.length_take_of_le hk
      generalize os[k] = o at *
      obtain ⟨z, d⟩ := o
      generalize os.take k = L at *
      obtain ⟨o8, ho8⟩ : ∃ o8, o8 = off + 2 * k := ⟨_, rfl⟩
      rw [← ho8] at hi c0 c1
      clear ho8
      have CP := Lib.hid fun W => copy_any z d hdk W
      unfold ov at CP
      go_wp2_with (first | (go_at_call 113; (refine (CP.out _).mono ?_); rintro e w2 ⟨rfl, hb2⟩; have ho2 := HO.out.below (bel2 ((Below.refl _ wr).alloc (Nat.le_refl _) _) hb2); have HO2 := Lib.hid (ho2.below ((Below.refl _ w2).alloc (Nat.le_refl _) (.cells #[.int .i64 z, .string ⟨d.toArray⟩] 82))); have HL := Lib.hid (reads_lit w2 [(z, d)] #[.int .i64 z, .string ⟨d.toArray⟩] rfl); clear ho2) | (at_builtin; refine wp_catO rfl _ _ rfl L [(z, d)] HO2.out HL.out rfl rfl (by simp; omega) ?_; intro v3 w3 ho3))
      have HO3 := Lib.hid ho3
      clear ho3
      go_roundw
      case rel => exact ⟨k + 1, by omega, by go_num, by rw [HT.out]; exact HO3.out⟩
      case measure => simp [intOf]; omega
    · obtain rfl : k = os.length := by omega
      rw [List.take_length] at HO
      go_wp2_with fail
      go_ret
      exact ⟨_, rfl, HO.out⟩
end Go.Proofs.YteabkmelnoefiaaGreatDoor.Pr
namespace Go.Proofs.YteabkmelnoefiaaGreatDoor.Pr
open Go.RowKit Go.Maps
set_option maxRecDepth 100000
/-- How often a kind stands there. -/
def cnt (z : Int) (l : List Opt.Op) : Nat := l.countP fun o => o.1 == z
theorem cnt_snoc (y z : Int) (d : List UInt8) (l : List Opt.Op) : cnt y (l ++ [(z, d)]) = if z = y then cnt y l + 1 else cnt y l := by
  unfold cnt
  rw [List.countP_append]
  by_cases h : z = y
  · simp [h]
  · simp [h]
theorem cnt_any (z : Int) (l : List Opt.Op) : decide ((0 : Int) < (cnt z l : Int)) = l.any (fun o => o.1 == z) := by
  rw [Bool.eq_iff_iff, decide_eq_true_eq, List.any_eq_true]
  have h : 0 < cnt z l ↔ ∃ a, a ∈ l ∧ (a.1 == z) = true := List.countP_pos_iff
  rw [← h]
  omega
theorem cnt_le (z : Int) (l : List Opt.Op) : cnt z l ≤ l.length := List.countP_le_length
theorem lawI : Keyed Tryz.prog 3 := int_keyed Tryz.underlying3
theorem zeroI (w : World) : (zeroValue 3).run Tryz.prog w = .ok (.int .i64 0) w := by kernel_rfl
theorem key_lit (z : Int) : WideAt.IsKeyLit (.int .i64 z) := by simp [WideAt.IsKeyLit]
/-- What the walk of 'rejected' holds: the row of rules in its box, the map, the slice that is made. -/
structure Seen (w W : World) (B : Nat) (v : Value) (acc : List Opt.Op) (n : Nat) (l : List Opt.Op) : Prop where
  base : Below w.heap.size w W
  side : Arr w.heap.size W (scs B)
  room : w.heap.size + 2 ≤ W.heap.size
  own : W.ownsRow (w.heap.size + 2) 82 2 v acc.length (cellsO acc)
  map : ∃ D : DataW Unit, W.ownsMap Tryz.prog 3 (plainElem Tryz.prog 3) (w.heap.size + 1) n D ∧ IsMap D ∧ ∀ z, D.atKey (.int .i64 z) (.lit (.int .i64 0)) = .lit (.int .i64 (cnt z l : Int))
theorem Seen.below {w W W' : World} {B n : Nat} {v : Value} {acc l : List Opt.Op} (h : Seen w W B v acc n l) (k : Below W.heap.size W W') : Seen w W' B v acc n l := by
  obtain ⟨D, h1, h2, h3⟩ := h.map
  have g : W.grownBy W' none := ⟨k.os, k.tape, k.output, k.size, fun i hi _ => k.block i hi⟩
  exact ⟨bel2 h.base k, h.side.below k, Nat.le_trans h.room k.size, h.own.kept g (by cases v.ownBlock <;> simp), D, h1.kept g (by simp), h2, h3⟩
theorem Seen.own1 {w W : World} {B n : Nat} {v : Value} {acc l : List Opt.Op} (h : Seen w W B v acc n l) : OwnsO w W v acc := ⟨h.own.mono (by omega), h.base⟩
theorem lit_one (W : World) (z : Int) (d : List UInt8) : ∀ j y, (cellsO [(z, d)])[j]? = some y → (W.alloc (.cells #[.int .i64 z, .string ⟨d.toArray⟩] 82)).cell? ((⟨W.heap.size, 0, none⟩ : Addr).add j) = some y := fun j y hj => new_cells W (cellsO [(z, d)]) 82 j y hj
theorem one_catS {o : Oper} {a : Act} {K : Act → World → Prop} {Q : Exit → Act → World → Prop} (sl x : Operand)
    (ho : o.op = .call { callee := .builtin .append, args := #[sl, x], argTypes := #[34, 34] })
    {W w : World} {B n : Nat} {v : Value} {acc l : List Opt.Op} (c : Opt.Op) (ad : Addr) (cap : Nat) (hS : Seen w W B v acc n l) (hc : ∀ j y, (cellsO [c])[j]? = some y → W.cell? (ad.add j) = some y)
    (hs : a.eval sl = v) (hx : a.eval x = .slice (some ad) 1 cap) (hl : (acc.length + 1) * 24 ≤ 140737488355328)
    (h : ∀ v' w', Seen w w' B v' (acc ++ [c]) n l → W.grownBy w' v.ownBlock → K (a.put o.dst v') w') : o.wp Tryz.prog a W K Q := by
  obtain ⟨i0, hi, hz0, hz1, hz2⟩ := info_parts infoO
  refine wp_append_own _ sl x 34 ho (w.heap.size + 2) 82 i0 (.agg #[.int .i64 0, .string ⟨#[]⟩]) 2 24 Tryz.underlying34 hi hz0 hz1 hz2 rfl (by decide) v acc.length (cellsO acc) hs hS.own ad 1 cap (cellsO [c]) hx (cellsO_length [c]) hc (cellsO_one [c]) (by unfold maxLen; omega) hl hS.room
    fun v' w' h1 h2 _ => h v' w' ?_ h2
  have hlt := fun k (hk : v.ownBlock = some k) => (hS.own.lt k hk).1
  obtain ⟨D, m1, m2, m3⟩ := hS.map
  refine ⟨hS.base.grown h2 hS.base.size (fun k hk => by have := hlt k hk; omega), hS.side.grown h2 (fun e => by have := hlt _ e.symm; omega), Nat.le_trans hS.room h2.size, ?_, D, m1.kept h2 (fun e => by have := hlt _ e.symm; omega), m2, m3⟩
  rw [cellsO_append, List.length_append]
  exact h1
section
variable {ops : Array Oper} {rest : List Oper} {o : Oper} {a : Act} {Q : Exit → Act → World → Prop} {w W : World} {B n : Nat} {v : Value} {acc l : List Opt.Op}
theorem wp_catS (hgd : o.guard = none) (sl x : Operand)
    (ho : o.op = .call { callee := .builtin .append, args := #[sl, x], argTypes := #[34, 34] })
    (c : Opt.Op) (ad : Addr) (cap : Nat) (hS : Seen w W B v acc n l) (hc : ∀ j y, (cellsO [c])[j]? = some y → W.cell? (ad.add j) = some y)
    (hs : a.eval sl = v) (hx : a.eval x = .slice (some ad) 1 cap) (hl : (acc.length + 1) * 24 ≤ 140737488355328)
    (h : ∀ v' w', Seen w w' B v' (acc ++ [c]) n l → W.grownBy w' v.ownBlock → wpList Tryz.prog ops Q rest (a.put o.dst v') w') : wpList Tryz.prog ops Q (o :: rest) a W :=
  wpList_plain hgd fun _ hK => one_catS sl x ho c ad cap hS hc hs hx hl fun v' w' h2 h3 => hK _ _ (h v' w' h2 h3)
/-- The map asked, be the step guarded or not. -/
theorem step_seen (hw : Region.wanted o (yielded ops a.tmps) = true) (m x : Operand) (ho : o.op = .lookup 178 m x false) (hS : Seen w W B v acc n l) (z : Int) (c : Nat) (hcc : c = cnt z l) (hz : (Lit.int .i64 z).wf = true)
    (hm : a.eval m = .map (some (w.heap.size + 1))) (hx : a.eval x = .int .i64 z) (h : wpList Tryz.prog ops Q rest (a.put o.dst (.int .i64 (c : Int))) W) : wpList Tryz.prog ops Q (o :: rest) a W := by
  subst hcc
  refine wpList_step fun _ hK => ?_
  rw [if_pos hw]
  obtain ⟨D, m1, m2, m3⟩ := hS.map
  obtain ⟨c', hrun, hat, _⟩ := m1.lookup_int lawI Tryz.underlying178 Tryz.underlying3 (zeroI _) (keyOf_int_mk Tryz.underlying3 hz)
  have hc : c' = (cnt z l : Int) := by
    have e := (m3 z).symm.trans hat
    simpa using e.symm
  rw [hc] at hrun
  unfold Oper.wp
  simp [execOp, ho, hm, hx, hrun, Result.andThen]
  exact hK _ _ h
theorem step_pos (hw : Region.wanted o (yielded ops a.tmps) = true) (x : Operand) (ho : o.op = .binOp .gtr 3 x (.const (.int .i64 0)) 3) (c : Nat) (b : Bool) (hb : decide ((0 : Int) < (c : Int)) = b) (hx : a.eval x = .int .i64 (c : Int))
    (h : wpList Tryz.prog ops Q rest (a.put o.dst (.bool b)) w) : wpList Tryz.prog ops Q (o :: rest) a w := by
  refine wpList_step fun _ hK => ?_
  rw [if_pos hw]
  subst hb
  have hy : a.eval (.const (.int .i64 0)) = .int .i64 0 := rfl
  unfold Oper.wp execOp
  simp only [ho, hx, hy, Sem.run_bind, Sem.run_pure]
  exact hK _ _ h
theorem Seen.look (hS : Seen w W B v acc n l) (z : Int) (c : Nat) (hcc : c = cnt z l) (hz : (Lit.int .i64 z).wf = true) : (Instr.lookup 178 (.map (some (w.heap.size + 1))) (.int .i64 z) false).run Tryz.prog W = .ok (.int .i64 (c : Int)) W := by
  subst hcc
  obtain ⟨D, m1, m2, m3⟩ := hS.map
  obtain ⟨c', hrun, hat, _⟩ := m1.lookup_int lawI Tryz.underlying178 Tryz.underlying3 (zeroI _) (keyOf_int_mk Tryz.underlying3 hz)
  have hc : c' = (cnt z l : Int) := by
    have e := (m3 z).symm.trans hat
    simpa using e.symm
  rwa [hc] at hrun
/-- The kind counted. -/
theorem wp_count (hgd : o.guard = none) (m x y : Operand) (ho : o.op = .mapUpdate 178 m x y) (hS : Seen w W B v acc n l) (z : Int) (d : List UInt8) (c : Nat) (hcc : c = cnt z l) (hz : (Lit.int .i64 z).wf = true) (hn : n < 1000000000)
    (hm : a.eval m = .map (some (w.heap.size + 1))) (hx : a.eval x = .int .i64 z) (hy : a.eval y = .int .i64 ((c : Int) + 1)) (hcl : (Lit.int .i64 ((c : Int) + 1)).wf = true)
    (h : ∀ W', Seen w W' B v acc (n + 1) (l ++ [(z, d)]) → wpList Tryz.prog ops Q rest (a.put o.dst undef) W') : wpList Tryz.prog ops Q (o :: rest) a W := by
  subst hcc
  obtain ⟨D, m1, m2, m3⟩ := hS.map
  refine wpList_mapUpdate_own _ hgd m x y 178 ho 3 3 lawI Tryz.underlying178 _ (w.heap.size + 1) n D hm m1 (by unfold maxLen; omega) _ _ _ hx hy (keyOf_int_mk Tryz.underlying3 hz) _ [] (plainElem_int Tryz.underlying3 hcl) ?_
  intro W' h1 h2
  refine h W' ⟨hS.base.grown h2 hS.base.size (fun k hk => by cases hk; omega), hS.side.grown h2 (by simp), Nat.le_trans hS.room h2.size, hS.own.kept h2 ?_, _, h1, m2.put _ _, fun y => ?_⟩
  · cases hv : v.ownBlock with
    | none => exact .inl rfl
    | some k => exact .inr (fun e => by have := (hS.own.lt k hv).1; cases e; omega)
  · rw [cnt_snoc]
    by_cases e : z = y
    · subst e
      rw [atKey_put_same m2 (key_lit z), if_pos rfl]
      rfl
    · rw [atKey_put_other (fun e2 => e (by cases e2; rfl)), m3 y, if_neg e]
end
/-- What is bad of an option, as the program reckons it. -/
def badP (own : Pol.Lk) (o : Opt.Op) (l : List Opt.Op) : Bool := !decide (at' o.1 < 6) || (!fitAt (at' o.1) o.2 || (!grantsAt own (at' o.1) || decide ((0 : Int) < (cnt o.1 l : Int))))
theorem right_fit (o : Opt.Op) : Pol.right o = (decide (at' o.1 < 6) && fitAt (at' o.1) o.2) := by
  obtain ⟨z, d⟩ := o
  unfold Pol.right at'
  simp only
  by_cases h1 : z = 1
  · simp [h1, fitAt]
  by_cases h2 : z = 5
  · simp [h2, fitAt]
  by_cases h3 : z = 17
  · simp [h3, fitAt]
  by_cases h4 : z = 18
  · subst h4
    cases d <;> simp [fitAt]
  by_cases h5 : z = 19
  · subst h5
    cases d <;> simp [fitAt]
  by_cases h6 : z = 23
  · simp [h6, fitAt]
  · simp [h1, h2, h3, h4, h5, h6]
theorem bad_eq (own : Pol.Lk) (os : List Opt.Op) (k : Nat) : Pol.bad own os k = badP own (Pol.g os k) (os.take k) := by
  unfold Pol.bad badP Pol.twice
  rw [right_fit, cnt_any]
  generalize Pol.g os k = o
  obtain ⟨z, d⟩ := o
  have hg : (z == 18 && !own.short) = (!grantsAt own (at' z)) := by
    unfold at'
    by_cases h4 : z = 18
    · subst h4; rfl
    · have : (z == 18) = false := by simpa using h4
      rw [this, if_neg h4]
      repeat (first | rfl | split)
  simp only
  rw [hg]
  cases decide (at' z < 6) <;> cases fitAt (at' z) d <;> cases grantsAt own (at' z) <;> cases (List.take k os).any (fun o => o.1 == z) <;> rfl
end Go.Proofs.YteabkmelnoefiaaGreatDoor.Pr
namespace Go.Proofs.YteabkmelnoefiaaGreatDoor.Pr
open Go.RowKit Go.Maps
set_option maxRecDepth 100000
theorem rejs_snoc (own : Pol.Lk) (os : List Opt.Op) (k : Nat) : Pol.rejs own os (k + 1) = Pol.rejs own os k ++ (if Pol.bad own os k then [Pol.g os k] else []) := rfl
theorem rejs_le (own : Pol.Lk) (os : List Opt.Op) (k : Nat) : (Pol.rejs own os k).length ≤ k := by
  induction k with
  | zero => exact Nat.le_refl 0
  | succ k ih =>
    rw [rejs_snoc, List.length_append]
    split <;> simp <;> omega
set_option maxHeartbeats 3200000 in
set_option maxRecDepth 100000 in
theorem rej_any (B : Nat) (l : Pol.Lk) (w : World) (h : Pl.Lnk B w l) (v : Value) (os : List Opt.Op) (hr : ReadsO w v os) (hl : os.length ≤ 1000000) (hk : ∀ o ∈ os, 0 ≤ o.1 ∧ o.1 ≤ 255) (hd : ∀ o ∈ os, o.2.length ≤ 1000000) :
    Calls Tryz.prog 101 #[.agg (scs B).toArray, v] w fun e w' => ∃ u, e = .returned u ∧ OwnsO w w' u (Pol.rejs l os os.length) := by
  have HL := Lib.hid h
  obtain ⟨q, cap, b, off, rfl, _, _, hi, hc⟩ := hr.at
  have HI := Lib.hid hi
  have HC := Lib.hid hc
  have HD := Lib.hid hd
  have HK := Lib.hid hk
  have hmm := @run_makeMap Tryz.prog
  have H0 : Hid (Seen w ((w.alloc (.cells (scs B).toArray 97)).alloc (.map #[] 0)) B (.slice none 0 0) [] 0 []) := Lib.hid (by
    have hs : (w.alloc (.cells (scs B).toArray 97)).heap.size = w.heap.size + 1 := by simp
    have hm := World.ownsMap_made (H := Unit) (w.alloc (.cells (scs B).toArray 97)) Tryz.prog 3 (plainElem Tryz.prog 3)
    rw [hs] at hm
    exact ⟨((Below.refl w.heap.size w).alloc (Nat.le_refl _) _).alloc (by simp) _, (side_box B w).below ((Below.refl _ _).alloc (Nat.le_refl _) _), by simp, World.ownsRow_nil _ _ _ _, _, hm, isMap_empty, fun z => rfl⟩)
  clear hi hc hr hd hk h
  obtain ⟨SC, hSC⟩ : ∃ SC, SC = (scs B).toArray := ⟨_, rfl⟩
  rw [← hSC] at H0 ⊢
  have HSC := Lib.hid hSC
  clear hSC
  go_enter Tryz.func101, Tryz.ntmps101
  go_wp2_with fail
  go_loopw [5, 14] (fun u i wr => ∃ k : Nat, k ≤ os.length ∧ i = .int .i64 (k : Int) ∧ Seen w wr B u (Pol.rejs l os k) k (os.take k)) (fun _ i _ => os.length - (intOf i).toNat)
  case atStart => exact ⟨0, Nat.zero_le _, rfl, H0.out⟩
  case round =>
    clear H0 hmm
    obtain ⟨k, hk, rfl, hs⟩ := hrel
    have HS := Lib.hid hs
    clear hs
    by_cases hlt : k < os.length
    · have hi := HI.out k hlt
      obtain ⟨c0, c1⟩ := HC.out k hlt
      rw [← HS.out.base.cell (block_lt_of_cell c0)] at c0
      rw [← HS.out.base.cell (block_lt_of_cell c1)] at c1
      have hdk := HD.out os[k] (List.getElem_mem hlt)
      have hkk := HK.out os[k] (List.getElem_mem hlt)
      have HT : Hid (os.take (k + 1) = os.take k ++ [os[k]]) := Lib.hid (List.take_succ_eq_append_getElem hlt)
      have HJ : Hid (Pol.rejs l os (k + 1) = Pol.rejs l os k ++ (if badP l os[k] (os.take k) then [os[k]] else [])) := Lib.hid (by
        rw [rejs_snoc, bad_eq, Pol.g_eq os k hlt])
      have hlk : (os.take k).length = k := List.length_take_of_le hk
      have hle := rejs_le l os k
      generalize Pol.rejs l os k = acc at *
      generalize os[k] = o at *
      obtain ⟨z, d⟩ := o
      generalize os.take k = L at *
      have hcn := cnt_le z L
      obtain ⟨c, hcc⟩ : ∃ c, c = cnt z L := ⟨_, rfl⟩
      rw [← hcc] at hcn
      have HCC := Lib.hid hcc
      have hwz : (Lit.int .i64 z).wf = true := WalkArith.wf_i64 (by simp only at hkk; omega)
      have hwc : (Lit.int .i64 ((c : Int) + 1)).wf = true := WalkArith.wf_i64 (by omega)
      obtain ⟨o8, ho8⟩ : ∃ o8, o8 = off + 2 * k := ⟨_, rfl⟩
      rw [← ho8] at hi c0 c1
      clear ho8
      have HW := Lib.hid hwz
      have HWC := Lib.hid hwc
      have LD : Hid (∀ W, Arr w.heap.size W (scs B) → (loadVar 97 ⟨w.heap.size, 0, none⟩).run Tryz.prog W = .ok (.agg SC) W) := Lib.hid fun W hA => by rw [HSC.out]; exact side_load hA
      have h' : ∀ W, Below w.heap.size w W → Pl.Lnk B W l := fun W hb => HL.out.below hb
      have CP := Lib.hid fun W => copy_any z d (by simp only at hdk; omega) W
      unfold ov at CP
      have HA2 := Lib.hid (HS.out.below ((Below.refl _ wr).alloc (Nat.le_refl _) (.cells #[.int .i64 z, .string ⟨d.toArray⟩] 82)))
      have HO2 := Lib.hid (Arr.new wr [.int .i64 z, .string ⟨d.toArray⟩] 82)
      have NE : Hid (∀ j, u5.ownBlock = some j → j < wr.heap.size) := Lib.hid fun j hj => (HS.out.own.lt j hj).2
      have LB := Lib.hid h'
      have hk9 : k < 1000000 := by omega
      have hc9 : c ≤ 1000000 := by omega
      have HLE : Hid ((acc.length + 1) * 24 ≤ 140737488355328) := Lib.hid (by omega)
      clear hwz hwc h' hcc hdk hkk hcn hlk hle
      by_cases hat : at' z < 6
      · obtain ⟨T, R, z', hp⟩ := plc (B := B) hat HSC.out
        obtain ⟨g1, v1, hm1, hc1⟩ := m_fits B (at' z) hat
        obtain ⟨g2, v2, hm2, hc2⟩ := m_grants B (at' z) hat
        have RU : Hid (∀ W, Calls Tryz.prog 104 #[.agg SC, .int .i64 z] W fun e w' => e = .returned (.tuple #[.iface T R, .bool true]) ∧ Below W.heap.size W w') := Lib.hid fun W => by
          have h := rule_any B z W
          rw [← HSC.out, show found B (at' z) = .tuple #[.iface (tys (at' z)) (rcv B (at' z)), .bool true] from if_pos hat, ← hp.2.2.1, ← hp.2.2.2.1] at h
          exact h
        rw [← hp.2.2.1, ← hp.2.2.2.1] at hm1 hm2
        obtain ⟨m1, m1'⟩ := hm1
        obtain ⟨m2, m2'⟩ := hm2
        have HBE : Hid (badP l (z, d) L = (!fitAt (at' z) d || (!grantsAt l (at' z) || decide ((0 : Int) < (c : Int))))) := Lib.hid (by unfold badP; simp only; rw [decide_eq_true hat, ← HCC.out]; rfl)
        have C1 := Lib.hid fun W => hc1 W d
        have C2 := Lib.hid fun W => hc2 W l
        clear hp hc1 hc2 hat
        generalize at' z = kk at *
        cases hf : fitAt kk d
        · rw [hf] at C1
          have HB : Hid (badP l (z, d) L = true) := Lib.hid (by rw [HBE.out, hf]; rfl)
          clear hf HBE C2 m2 m2'
          go_wp2_with (first | (refine wpList_load rfl 97 _ rfl ⟨w.heap.size, 0, none⟩ _ rfl (LD.out _ HA2.out.side) ?_) | (go_at_call 104; (refine (RU.out _).mono ?_); rintro e w2 ⟨rfl, hb2⟩; have HS2 := Lib.hid (HA2.out.below hb2); have HO3 := Lib.hid (HO2.out.below hb2); have d0 := HO3.out.cell 0 _ rfl; have d1 := HO3.out.cell 1 _ rfl; have hz2 := HO3.out.lt; clear hb2) | (go_at_fn g1; (refine (C1.out _).mono ?_); rintro e w3 ⟨rfl, hb3⟩; have HS3 := Lib.hid (HS2.out.below hb3); have HO4 := Lib.hid (HO3.out.below hb3); have d03 := HO4.out.cell 0 _ rfl; have d13 := HO4.out.cell 1 _ rfl; have hz3 := HO4.out.lt; clear hb3) | (go_at_call 113; (refine (CP.out _).mono ?_); rintro e w5 ⟨rfl, hb5⟩; have hq5 := hb5.alloc hb5.size (.cells #[.int .i64 z, .string ⟨d.toArray⟩] 82); have HS5 := Lib.hid (HS3.out.below hq5); have HO5 := Lib.hid (HO4.out.below hq5); have HLC := Lib.hid (lit_one w5 z d); clear hb5 hq5) | (at_builtin; refine wp_catS rfl _ _ rfl (z, d) _ _ HS5.out HLC.out rfl rfl HLE.out ?_; intro v6 w6 hs6 hg6; have HS6 := Lib.hid hs6; have HO6 := Lib.hid (HO5.out.grown hg6 (fun e => Nat.lt_irrefl _ (NE.out _ e.symm))); have d06 := HO6.out.cell 0 _ rfl; have hz6 := HO6.out.lt; clear hs6 hg6) | (at_lookup; refine step_seen rfl _ _ rfl HS6.out z c HCC.out HW.out rfl rfl ?_) | (at_mapUpdate; refine wp_count rfl _ _ _ rfl HS6.out z d c HCC.out HW.out (by omega) rfl rfl rfl HWC.out ?_; intro w7 hs7; have HS7 := Lib.hid hs7; clear hs7))
          go_roundw
          case rel => exact ⟨k + 1, by omega, by go_num, by rw [HT.out, HJ.out, HB.out]; exact HS7.out⟩
          case measure => simp [intOf]; omega
        · rw [hf] at C1
          cases hg : grantsAt l kk
          · have C2 : Hid (∀ W, Pl.Lnk B W l → Calls Tryz.prog g2 #[v2] W fun e w' => e = .returned (.bool false) ∧ Below W.heap.size W w') := Lib.hid (hg ▸ C2.out)
            have HB : Hid (badP l (z, d) L = true) := Lib.hid (by rw [HBE.out, hf, hg]; rfl)
            clear hf hg HBE
            go_wp2_with (first | (refine wpList_load rfl 97 _ rfl ⟨w.heap.size, 0, none⟩ _ rfl (LD.out _ HA2.out.side) ?_) | (go_at_call 104; (refine (RU.out _).mono ?_); rintro e w2 ⟨rfl, hb2⟩; have HS2 := Lib.hid (HA2.out.below hb2); have HO3 := Lib.hid (HO2.out.below hb2); have d0 := HO3.out.cell 0 _ rfl; have d1 := HO3.out.cell 1 _ rfl; have hz2 := HO3.out.lt; clear hb2) | (go_at_fn g1; (refine (C1.out _).mono ?_); rintro e w3 ⟨rfl, hb3⟩; have HS3 := Lib.hid (HS2.out.below hb3); have HO4 := Lib.hid (HO3.out.below hb3); have d03 := HO4.out.cell 0 _ rfl; have d13 := HO4.out.cell 1 _ rfl; have hz3 := HO4.out.lt; clear hb3) | (go_at_fn g2; (refine (C2.out _ (LB.out _ HS3.out.base)).mono ?_); rintro e w4 ⟨rfl, hb4⟩; have HS4 := Lib.hid (HS3.out.below hb4); have HO5 := Lib.hid (HO4.out.below hb4); have d04 := HO5.out.cell 0 _ rfl; have d14 := HO5.out.cell 1 _ rfl; have hz4 := HO5.out.lt; clear hb4) | (at_lookup; refine step_seen rfl _ _ rfl HS4.out z c HCC.out HW.out rfl rfl ?_) | (go_at_call 113; (refine (CP.out _).mono ?_); rintro e w5 ⟨rfl, hb5⟩; have hq5 := hb5.alloc hb5.size (.cells #[.int .i64 z, .string ⟨d.toArray⟩] 82); have HS5 := Lib.hid (HS4.out.below hq5); have HO5 := Lib.hid (HO5.out.below hq5); have HLC := Lib.hid (lit_one w5 z d); clear hb5 hq5) | (at_builtin; refine wp_catS rfl _ _ rfl (z, d) _ _ HS5.out HLC.out rfl rfl HLE.out ?_; intro v6 w6 hs6 hg6; have HS6 := Lib.hid hs6; have HO6 := Lib.hid (HO5.out.grown hg6 (fun e => Nat.lt_irrefl _ (NE.out _ e.symm))); have d06 := HO6.out.cell 0 _ rfl; have hz6 := HO6.out.lt; clear hs6 hg6) | (at_lookup; refine step_seen rfl _ _ rfl HS6.out z c HCC.out HW.out rfl rfl ?_) | (at_mapUpdate; refine wp_count rfl _ _ _ rfl HS6.out z d c HCC.out HW.out (by omega) rfl rfl rfl HWC.out ?_; intro w7 hs7; have HS7 := Lib.hid hs7; clear hs7))
            go_roundw
            case rel => exact ⟨k + 1, by omega, by go_num, by rw [HT.out, HJ.out, HB.out]; exact HS7.out⟩
            case measure => simp [intOf]; omega
          · have C2 : Hid (∀ W, Pl.Lnk B W l → Calls Tryz.prog g2 #[v2] W fun e w' => e = .returned (.bool true) ∧ Below W.heap.size W w') := Lib.hid (hg ▸ C2.out)
            cases hq : decide ((0 : Int) < (c : Int))
            · have HB : Hid (badP l (z, d) L = false) := Lib.hid (by rw [HBE.out, hf, hg, hq]; rfl)
              have HQ := Lib.hid hq
              clear hf hg HBE CP hq
              go_wp2_with (first | (refine step_pos rfl _ rfl c false HQ.out rfl ?_) | (at_lookup; refine step_seen rfl _ _ rfl HS4.out z c HCC.out HW.out rfl rfl ?_) | (refine wpList_load rfl 97 _ rfl ⟨w.heap.size, 0, none⟩ _ rfl (LD.out _ HA2.out.side) ?_) | (go_at_call 104; (refine (RU.out _).mono ?_); rintro e w2 ⟨rfl, hb2⟩; have HS2 := Lib.hid (HA2.out.below hb2); have HO3 := Lib.hid (HO2.out.below hb2); have d0 := HO3.out.cell 0 _ rfl; have d1 := HO3.out.cell 1 _ rfl; have hz2 := HO3.out.lt; clear hb2) | (go_at_fn g1; (refine (C1.out _).mono ?_); rintro e w3 ⟨rfl, hb3⟩; have HS3 := Lib.hid (HS2.out.below hb3); have HO4 := Lib.hid (HO3.out.below hb3); have d03 := HO4.out.cell 0 _ rfl; have d13 := HO4.out.cell 1 _ rfl; have hz3 := HO4.out.lt; clear hb3) | (go_at_fn g2; (refine (C2.out _ (LB.out _ HS3.out.base)).mono ?_); rintro e w4 ⟨rfl, hb4⟩; have HS4 := Lib.hid (HS3.out.below hb4); have HO5 := Lib.hid (HO4.out.below hb4); have d04 := HO5.out.cell 0 _ rfl; have d14 := HO5.out.cell 1 _ rfl; have hz4 := HO5.out.lt; clear hb4) | (at_mapUpdate; refine wp_count rfl _ _ _ rfl HS4.out z d c HCC.out HW.out (by omega) rfl rfl rfl HWC.out ?_; intro w7 hs7; have HS7 := Lib.hid hs7; clear hs7))
              go_roundw
              case rel => exact ⟨k + 1, by omega, by go_num, by rw [HT.out, HJ.out, HB.out]; exact (List.append_nil acc).symm ▸ HS7.out⟩
              case measure => simp [intOf]; omega
            · have HB : Hid (badP l (z, d) L = true) := Lib.hid (by rw [HBE.out, hf, hg, hq]; rfl)
              have HQ := Lib.hid hq
              clear hf hg HBE hq
              go_wp2_with (first | (refine step_pos rfl _ rfl c true HQ.out rfl ?_) | (at_lookup; refine step_seen rfl _ _ rfl HS4.out z c HCC.out HW.out rfl rfl ?_) | (refine wpList_load rfl 97 _ rfl ⟨w.heap.size, 0, none⟩ _ rfl (LD.out _ HA2.out.side) ?_) | (go_at_call 104; (refine (RU.out _).mono ?_); rintro e w2 ⟨rfl, hb2⟩; have HS2 := Lib.hid (HA2.out.below hb2); have HO3 := Lib.hid (HO2.out.below hb2); have d0 := HO3.out.cell 0 _ rfl; have d1 := HO3.out.cell 1 _ rfl; have hz2 := HO3.out.lt; clear hb2) | (go_at_fn g1; (refine (C1.out _).mono ?_); rintro e w3 ⟨rfl, hb3⟩; have HS3 := Lib.hid (HS2.out.below hb3); have HO4 := Lib.hid (HO3.out.below hb3); have d03 := HO4.out.cell 0 _ rfl; have d13 := HO4.out.cell 1 _ rfl; have hz3 := HO4.out.lt; clear hb3) | (go_at_fn g2; (refine (C2.out _ (LB.out _ HS3.out.base)).mono ?_); rintro e w4 ⟨rfl, hb4⟩; have HS4 := Lib.hid (HS3.out.below hb4); have HO5 := Lib.hid (HO4.out.below hb4); have d04 := HO5.out.cell 0 _ rfl; have d14 := HO5.out.cell 1 _ rfl; have hz4 := HO5.out.lt; clear hb4) | (go_at_call 113; (refine (CP.out _).mono ?_); rintro e w5 ⟨rfl, hb5⟩; have hq5 := hb5.alloc hb5.size (.cells #[.int .i64 z, .string ⟨d.toArray⟩] 82); have HS5 := Lib.hid (HS4.out.below hq5); have HO5 := Lib.hid (HO5.out.below hq5); have HLC := Lib.hid (lit_one w5 z d); clear hb5 hq5) | (at_builtin; refine wp_catS rfl _ _ rfl (z, d) _ _ HS5.out HLC.out rfl rfl HLE.out ?_; intro v6 w6 hs6 hg6; have HS6 := Lib.hid hs6; have HO6 := Lib.hid (HO5.out.grown hg6 (fun e => Nat.lt_irrefl _ (NE.out _ e.symm))); have d06 := HO6.out.cell 0 _ rfl; have hz6 := HO6.out.lt; clear hs6 hg6) | (at_lookup; refine step_seen rfl _ _ rfl HS6.out z c HCC.out HW.out rfl rfl ?_) | (at_mapUpdate; refine wp_count rfl _ _ _ rfl HS6.out z d c HCC.out HW.out (by omega) rfl rfl rfl HWC.out ?_; intro w7 hs7; have HS7 := Lib.hid hs7; clear hs7))
              go_roundw
              case rel => exact ⟨k + 1, by omega, by go_num, by rw [HT.out, HJ.out, HB.out]; exact HS7.out⟩
              case measure => simp [intOf]; omega
      · have HB : Hid (badP l (z, d) L = true) := Lib.hid (by unfold badP; simp only; rw [decide_eq_false hat]; rfl)
        have RU : Hid (∀ W, Calls Tryz.prog 104 #[.agg SC, .int .i64 z] W fun e w' => e = .returned (.tuple #[.nilIface, .bool false]) ∧ Below W.heap.size W w') := Lib.hid fun W => by
          have h := rule_miss B z hat W
          rwa [← HSC.out] at h
        clear hat
        go_wp2_with (first | (refine wpList_load rfl 97 _ rfl ⟨w.heap.size, 0, none⟩ _ rfl (LD.out _ HA2.out.side) ?_) | (go_at_call 104; (refine (RU.out _).mono ?_); rintro e w2 ⟨rfl, hb2⟩; have HS2 := Lib.hid (HA2.out.below hb2); have HO3 := Lib.hid (HO2.out.below hb2); have d0 := HO3.out.cell 0 _ rfl; have d1 := HO3.out.cell 1 _ rfl; have hz2 := HO3.out.lt; clear hb2) | (go_at_call 113; (refine (CP.out _).mono ?_); rintro e w5 ⟨rfl, hb5⟩; have hq5 := hb5.alloc hb5.size (.cells #[.int .i64 z, .string ⟨d.toArray⟩] 82); have HS5 := Lib.hid (HS2.out.below hq5); have HO5 := Lib.hid (HO3.out.below hq5); have HLC := Lib.hid (lit_one w5 z d); clear hb5 hq5) | (at_builtin; refine wp_catS rfl _ _ rfl (z, d) _ _ HS5.out HLC.out rfl rfl HLE.out ?_; intro v6 w6 hs6 hg6; have HS6 := Lib.hid hs6; have HO6 := Lib.hid (HO5.out.grown hg6 (fun e => Nat.lt_irrefl _ (NE.out _ e.symm))); have d06 := HO6.out.cell 0 _ rfl; have hz6 := HO6.out.lt; clear hs6 hg6) | (at_lookup; refine step_seen rfl _ _ rfl HS6.out z c HCC.out HW.out rfl rfl ?_) | (at_mapUpdate; refine wp_count rfl _ _ _ rfl HS6.out z d c HCC.out HW.out (by omega) rfl rfl rfl HWC.out ?_; intro w7 hs7; have HS7 := Lib.hid hs7; clear hs7))
        go_roundw
        case rel => exact ⟨k + 1, by omega, by go_num, by rw [HT.out, HJ.out, HB.out]; exact HS7.out⟩
        case measure => simp [intOf]; omega
    · obtain rfl : k = os.length := by omega
      go_wp2_with fail
      go_ret
      exact ⟨_, rfl, HS.out.own1⟩
end Go.Proofs.YteabkmelnoefiaaGreatDoor.Pr
