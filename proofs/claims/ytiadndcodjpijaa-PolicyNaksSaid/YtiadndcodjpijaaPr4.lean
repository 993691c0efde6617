/-
  The program's rules: each kind's method, whatever the kind. (gen_pr4.py)
-/
import Derived.Test.YtiadndcodjpijaaPr3
namespace Go.Proofs.Ytiadndcodjpijaa.Pr
open Go.RowKit
def mayAt (l : Pol.Lk) (k : Nat) : Bool := match k with | 0 => Pol.size l.mru | 1 => decide (0 ≤ l.magic) && decide (l.magic < ((256 ^ 4 : Nat) : Int)) | 2 => Pol.size l.mrru | 3 => true | 4 => decide (l.disc.length ≤ 20) | _ => decide (0 ≤ l.num) && decide (l.num < ((256 ^ 2 : Nat) : Int))
def asksAt (l : Pol.Lk) (k : Nat) : Bool := match k with | 0 => l.mru != 0 | 1 => l.magic != 0 | 2 => l.mrru != 0 | 3 => l.short | 4 => !l.disc.isEmpty | _ => l.num != 0
def dataAt (l : Pol.Lk) (k : Nat) : List UInt8 := match k with | 0 => Pol.be 2 l.mru.toNat | 1 => Pol.be 4 l.magic.toNat | 2 => Pol.be 2 l.mrru.toNat | 3 => [] | 4 => l.disc | _ => Pol.be 2 l.num.toNat
def dropAt (l : Pol.Lk) (k : Nat) : Pol.Lk := match k with | 0 => { l with mru := 0 } | 1 => { l with magic := 0 } | 2 => { l with mrru := 0 } | 3 => { l with short := false } | 4 => { l with disc := [] } | _ => { l with num := 0 }
def takeAt (l : Pol.Lk) (k : Nat) (d : List UInt8) : Pol.Lk := match k with | 0 => { l with mru := nm d } | 1 => { l with magic := nm d } | 2 => { l with mrru := nm d } | 3 => { l with short := true } | 4 => { l with disc := d } | _ => { l with num := nm d }
def fitAt (k : Nat) (d : List UInt8) : Bool := match k with | 0 => d.length == 2 | 1 => d.length == 4 | 2 => d.length == 2 | 3 => d.isEmpty | 4 => !d.isEmpty && decide (d.length ≤ 20) | _ => d.length == 2
def goodAt (k : Nat) (d : List UInt8) : Bool := match k with | 0 => Pol.unit (nm d) | 1 => nm d != 0 | 2 => Pol.unit (nm d) | _ => true
def grantsAt (l : Pol.Lk) (k : Nat) : Bool := match k with | 3 => l.short | _ => true
def wishAt (l : Pol.Lk) (k : Nat) (d : List UInt8) : List UInt8 := match k with
  | 0 => if Pol.unit (nm d) then d else Pol.be 2 1500 | 1 => if nm d = 0 ∨ nm d = l.magic then Pol.be 4 (Pol.turn l.magic).toNat else d | 2 => if Pol.unit (nm d) then d else Pol.be 2 1500 | _ => d
/-- This function is the method of that name, over this receiver. -/
def Meth (g : Nat) (v : Value) (T : TypeId) (R : Value) (name : String) : Prop :=
  (∀ f W, (method (f + 1) T R name).run Try.prog W = .ok (g, v) W) ∧ ∀ args W, (callFunc g args).run Try.prog W = .ok (.enter g args) W
/-- The link's numbers are none below zero, its text is short. -/
def Plain (l : Pol.Lk) : Prop := 0 ≤ l.mru ∧ 0 ≤ l.magic ∧ 0 ≤ l.mrru ∧ 0 ≤ l.num ∧ l.disc.length ≤ 20 ∧ l.magic ≤ 4294967295
theorem kept_lnk {B k : Nat} {W w' : World} {l l' : Pol.Lk} {u : Value} (h : Pl.Lnk B W l) (e : Pl.lcs l' = (Pl.lcs l).set k u) (hw : Wrote B k u W w') : Pl.Lnk B w' l' ∧ W.grownBy w' (some B) := ⟨show Arr B w' (Pl.lcs l') from e ▸ hw.1 _ h, hw.2⟩
theorem m_may (B k : Nat) (hk : k < 6) : ∃ g v, Meth g v (tys k) (rcv B k) "withy/policy.mayBe" ∧ ∀ W l, Pl.Lnk B W l → Calls Try.prog g #[v] W fun e w' => e = .returned (.bool (mayAt l k)) ∧ Below W.heap.size W w' :=
  match k, hk with
  | 0, _ => ⟨59, num B 0 2, ⟨fun _ _ => by kernel_rfl, fun _ _ => by kernel_rfl⟩, fun _ l h => unit_may 2 _ (h.cell 0 _ rfl)⟩
  | 1, _ => ⟨54, num B 1 4, ⟨fun _ _ => by kernel_rfl, fun _ _ => by kernel_rfl⟩, fun _ l h => num_may 4 _ (by omega) (h.cell 1 _ rfl)⟩
  | 2, _ => ⟨59, num B 2 2, ⟨fun _ _ => by kernel_rfl, fun _ _ => by kernel_rfl⟩, fun _ l h => unit_may 2 _ (h.cell 2 _ rfl)⟩
  | 3, _ => ⟨69, one B 3, ⟨fun _ _ => by kernel_rfl, fun _ _ => by kernel_rfl⟩, fun _ l _ => short_may⟩
  | 4, _ => ⟨75, one B 4, ⟨fun _ _ => by kernel_rfl, fun _ _ => by kernel_rfl⟩, fun _ l h => disc_may _ (h.cell 4 _ rfl)⟩
  | 5, _ => ⟨54, num B 5 2, ⟨fun _ _ => by kernel_rfl, fun _ _ => by kernel_rfl⟩, fun _ l h => num_may 2 _ (by omega) (h.cell 5 _ rfl)⟩
theorem m_asks (B k : Nat) (hk : k < 6) : ∃ g v, Meth g v (tys k) (rcv B k) "withy/policy.asks" ∧ ∀ W l, Pl.Lnk B W l → Calls Try.prog g #[v] W fun e w' => e = .returned (.bool (asksAt l k)) ∧ Below W.heap.size W w' :=
  match k, hk with
  | 0, _ => ⟨50, num B 0 2, ⟨fun _ _ => by kernel_rfl, fun _ _ => by kernel_rfl⟩, fun _ l h => num_asks 2 _ (h.cell 0 _ rfl)⟩
  | 1, _ => ⟨50, num B 1 4, ⟨fun _ _ => by kernel_rfl, fun _ _ => by kernel_rfl⟩, fun _ l h => num_asks 4 _ (h.cell 1 _ rfl)⟩
  | 2, _ => ⟨50, num B 2 2, ⟨fun _ _ => by kernel_rfl, fun _ _ => by kernel_rfl⟩, fun _ l h => num_asks 2 _ (h.cell 2 _ rfl)⟩
  | 3, _ => ⟨64, one B 3, ⟨fun _ _ => by kernel_rfl, fun _ _ => by kernel_rfl⟩, fun _ l h => short_asks _ (h.cell 3 _ rfl)⟩
  | 4, _ => ⟨71, one B 4, ⟨fun _ _ => by kernel_rfl, fun _ _ => by kernel_rfl⟩, fun _ l h => disc_asks _ (h.cell 4 _ rfl)⟩
  | 5, _ => ⟨50, num B 5 2, ⟨fun _ _ => by kernel_rfl, fun _ _ => by kernel_rfl⟩, fun _ l h => num_asks 2 _ (h.cell 5 _ rfl)⟩
theorem m_data (B k : Nat) (hk : k < 6) : ∃ g v, Meth g v (tys k) (rcv B k) "withy/policy.data" ∧ ∀ W l, Pl.Lnk B W l → Plain l → Calls Try.prog g #[v] W fun e w' => e = .returned (.string ⟨(dataAt l k).toArray⟩) ∧ Below W.heap.size W w' :=
  match k, hk with
  | 0, _ => ⟨51, num B 0 2, ⟨fun _ _ => by kernel_rfl, fun _ _ => by kernel_rfl⟩, fun W l h p => num_data 2 l.mru.toNat (by omega) (by rw [Int.toNat_of_nonneg p.1]; exact h.cell 0 _ rfl)⟩
  | 1, _ => ⟨51, num B 1 4, ⟨fun _ _ => by kernel_rfl, fun _ _ => by kernel_rfl⟩, fun W l h p => num_data 4 l.magic.toNat (by omega) (by rw [Int.toNat_of_nonneg p.2.1]; exact h.cell 1 _ rfl)⟩
  | 2, _ => ⟨51, num B 2 2, ⟨fun _ _ => by kernel_rfl, fun _ _ => by kernel_rfl⟩, fun W l h p => num_data 2 l.mrru.toNat (by omega) (by rw [Int.toNat_of_nonneg p.2.2.1]; exact h.cell 2 _ rfl)⟩
  | 3, _ => ⟨65, one B 3, ⟨fun _ _ => by kernel_rfl, fun _ _ => by kernel_rfl⟩, fun _ l _ _ => short_data⟩
  | 4, _ => ⟨72, one B 4, ⟨fun _ _ => by kernel_rfl, fun _ _ => by kernel_rfl⟩, fun _ l h p => disc_data l.disc (by have := p.2.2.2.2.1; omega) (h.cell 4 _ rfl)⟩
  | 5, _ => ⟨51, num B 5 2, ⟨fun _ _ => by kernel_rfl, fun _ _ => by kernel_rfl⟩, fun W l h p => num_data 2 l.num.toNat (by omega) (by rw [Int.toNat_of_nonneg p.2.2.2.1]; exact h.cell 5 _ rfl)⟩
theorem m_drop (B k : Nat) (hk : k < 6) : ∃ g v, Meth g v (tys k) (rcv B k) "withy/policy.drop" ∧ ∀ W l, Pl.Lnk B W l → Calls Try.prog g #[v] W fun e w' => e = .returned (.tuple #[]) ∧ Pl.Lnk B w' (dropAt l k) ∧ W.grownBy w' (some B) :=
  match k, hk with
  | 0, _ => ⟨52, num B 0 2, ⟨fun _ _ => by kernel_rfl, fun _ _ => by kernel_rfl⟩, fun W l h => (num_drop 2 _ (h.cell 0 _ rfl) (h.frozen 0)).mono (fun e w' hh => ⟨hh.1, kept_lnk (l' := dropAt l 0) h rfl hh.2⟩)⟩
  | 1, _ => ⟨52, num B 1 4, ⟨fun _ _ => by kernel_rfl, fun _ _ => by kernel_rfl⟩, fun W l h => (num_drop 4 _ (h.cell 1 _ rfl) (h.frozen 1)).mono (fun e w' hh => ⟨hh.1, kept_lnk (l' := dropAt l 1) h rfl hh.2⟩)⟩
  | 2, _ => ⟨52, num B 2 2, ⟨fun _ _ => by kernel_rfl, fun _ _ => by kernel_rfl⟩, fun W l h => (num_drop 2 _ (h.cell 2 _ rfl) (h.frozen 2)).mono (fun e w' hh => ⟨hh.1, kept_lnk (l' := dropAt l 2) h rfl hh.2⟩)⟩
  | 3, _ => ⟨66, one B 3, ⟨fun _ _ => by kernel_rfl, fun _ _ => by kernel_rfl⟩, fun W l h => (short_drop _ (h.cell 3 _ rfl) (h.frozen 3)).mono (fun e w' hh => ⟨hh.1, kept_lnk (l' := dropAt l 3) h rfl hh.2⟩)⟩
  | 4, _ => ⟨73, one B 4, ⟨fun _ _ => by kernel_rfl, fun _ _ => by kernel_rfl⟩, fun W l h => (disc_drop _ (h.cell 4 _ rfl) (h.frozen 4)).mono (fun e w' hh => ⟨hh.1, kept_lnk (l' := dropAt l 4) h rfl hh.2⟩)⟩
  | 5, _ => ⟨52, num B 5 2, ⟨fun _ _ => by kernel_rfl, fun _ _ => by kernel_rfl⟩, fun W l h => (num_drop 2 _ (h.cell 5 _ rfl) (h.frozen 5)).mono (fun e w' hh => ⟨hh.1, kept_lnk (l' := dropAt l 5) h rfl hh.2⟩)⟩
theorem m_take (B k : Nat) (hk : k < 6) : ∃ g v, Meth g v (tys k) (rcv B k) "withy/policy.take" ∧ ∀ W l (d : List UInt8), Pl.Lnk B W l → d.length ≤ 140737488355328 → Calls Try.prog g #[v, .string ⟨d.toArray⟩] W fun e w' => e = .returned (.tuple #[]) ∧ Pl.Lnk B w' (takeAt l k d) ∧ W.grownBy w' (some B) :=
  match k, hk with
  | 0, _ => ⟨55, num B 0 2, ⟨fun _ _ => by kernel_rfl, fun _ _ => by kernel_rfl⟩, fun W l d h hd => (num_take 2 _ d hd (h.cell 0 _ rfl) (h.frozen 0)).mono (fun e w' hh => ⟨hh.1, kept_lnk (l' := takeAt l 0 d) h rfl hh.2⟩)⟩
  | 1, _ => ⟨55, num B 1 4, ⟨fun _ _ => by kernel_rfl, fun _ _ => by kernel_rfl⟩, fun W l d h hd => (num_take 4 _ d hd (h.cell 1 _ rfl) (h.frozen 1)).mono (fun e w' hh => ⟨hh.1, kept_lnk (l' := takeAt l 1 d) h rfl hh.2⟩)⟩
  | 2, _ => ⟨55, num B 2 2, ⟨fun _ _ => by kernel_rfl, fun _ _ => by kernel_rfl⟩, fun W l d h hd => (num_take 2 _ d hd (h.cell 2 _ rfl) (h.frozen 2)).mono (fun e w' hh => ⟨hh.1, kept_lnk (l' := takeAt l 2 d) h rfl hh.2⟩)⟩
  | 3, _ => ⟨70, one B 3, ⟨fun _ _ => by kernel_rfl, fun _ _ => by kernel_rfl⟩, fun W l d h _ => (short_take _ d (h.cell 3 _ rfl) (h.frozen 3)).mono (fun e w' hh => ⟨hh.1, kept_lnk (l' := takeAt l 3 d) h rfl hh.2⟩)⟩
  | 4, _ => ⟨76, one B 4, ⟨fun _ _ => by kernel_rfl, fun _ _ => by kernel_rfl⟩, fun W l d h hd => (disc_take _ d hd (h.cell 4 _ rfl) (h.frozen 4)).mono (fun e w' hh => ⟨hh.1, kept_lnk (l' := takeAt l 4 d) h rfl hh.2⟩)⟩
  | 5, _ => ⟨55, num B 5 2, ⟨fun _ _ => by kernel_rfl, fun _ _ => by kernel_rfl⟩, fun W l d h hd => (num_take 2 _ d hd (h.cell 5 _ rfl) (h.frozen 5)).mono (fun e w' hh => ⟨hh.1, kept_lnk (l' := takeAt l 5 d) h rfl hh.2⟩)⟩
theorem m_fits (B k : Nat) (hk : k < 6) : ∃ g v, Meth g v (tys k) (rcv B k) "withy/policy.fits" ∧ ∀ W (d : List UInt8), Calls Try.prog g #[v, .string ⟨d.toArray⟩] W fun e w' => e = .returned (.bool (fitAt k d)) ∧ Below W.heap.size W w' :=
  match k, hk with
  | 0, _ => ⟨53, num B 0 2, ⟨fun _ _ => by kernel_rfl, fun _ _ => by kernel_rfl⟩, fun _ d => num_fits 2 d⟩
  | 1, _ => ⟨53, num B 1 4, ⟨fun _ _ => by kernel_rfl, fun _ _ => by kernel_rfl⟩, fun _ d => num_fits 4 d⟩
  | 2, _ => ⟨53, num B 2 2, ⟨fun _ _ => by kernel_rfl, fun _ _ => by kernel_rfl⟩, fun _ d => num_fits 2 d⟩
  | 3, _ => ⟨67, one B 3, ⟨fun _ _ => by kernel_rfl, fun _ _ => by kernel_rfl⟩, fun _ d => short_fits d⟩
  | 4, _ => ⟨74, one B 4, ⟨fun _ _ => by kernel_rfl, fun _ _ => by kernel_rfl⟩, fun _ d => disc_fits d⟩
  | 5, _ => ⟨53, num B 5 2, ⟨fun _ _ => by kernel_rfl, fun _ _ => by kernel_rfl⟩, fun _ d => num_fits 2 d⟩
theorem m_good (B k : Nat) (hk : k < 6) : ∃ g v, Meth g v (tys k) (rcv B k) "withy/policy.good" ∧ ∀ W (d : List UInt8), d.length ≤ 140737488355328 → Calls Try.prog g #[v, .string ⟨d.toArray⟩] W fun e w' => e = .returned (.bool (goodAt k d)) ∧ Below W.heap.size W w' :=
  match k, hk with
  | 0, _ => ⟨58, num B 0 2, ⟨fun _ _ => by kernel_rfl, fun _ _ => by kernel_rfl⟩, fun _ d hd => unit_good 2 d hd⟩
  | 1, _ => ⟨62, num B 1 4, ⟨fun _ _ => by kernel_rfl, fun _ _ => by kernel_rfl⟩, fun _ d hd => magic_good 4 d hd⟩
  | 2, _ => ⟨58, num B 2 2, ⟨fun _ _ => by kernel_rfl, fun _ _ => by kernel_rfl⟩, fun _ d hd => unit_good 2 d hd⟩
  | 3, _ => ⟨47, .agg #[], ⟨fun _ _ => by kernel_rfl, fun _ _ => by kernel_rfl⟩, fun _ d _ => easy_good d⟩
  | 4, _ => ⟨47, .agg #[], ⟨fun _ _ => by kernel_rfl, fun _ _ => by kernel_rfl⟩, fun _ d _ => easy_good d⟩
  | 5, _ => ⟨47, .agg #[], ⟨fun _ _ => by kernel_rfl, fun _ _ => by kernel_rfl⟩, fun _ d _ => easy_good d⟩
theorem m_grants (B k : Nat) (hk : k < 6) : ∃ g v, Meth g v (tys k) (rcv B k) "withy/policy.grants" ∧ ∀ W l, Pl.Lnk B W l → Calls Try.prog g #[v] W fun e w' => e = .returned (.bool (grantsAt l k)) ∧ Below W.heap.size W w' :=
  match k, hk with
  | 0, _ => ⟨48, .agg #[], ⟨fun _ _ => by kernel_rfl, fun _ _ => by kernel_rfl⟩, fun _ l _ => easy_grants⟩
  | 1, _ => ⟨48, .agg #[], ⟨fun _ _ => by kernel_rfl, fun _ _ => by kernel_rfl⟩, fun _ l _ => easy_grants⟩
  | 2, _ => ⟨48, .agg #[], ⟨fun _ _ => by kernel_rfl, fun _ _ => by kernel_rfl⟩, fun _ l _ => easy_grants⟩
  | 3, _ => ⟨68, one B 3, ⟨fun _ _ => by kernel_rfl, fun _ _ => by kernel_rfl⟩, fun _ l h => short_grants _ (h.cell 3 _ rfl)⟩
  | 4, _ => ⟨48, .agg #[], ⟨fun _ _ => by kernel_rfl, fun _ _ => by kernel_rfl⟩, fun _ l _ => easy_grants⟩
  | 5, _ => ⟨48, .agg #[], ⟨fun _ _ => by kernel_rfl, fun _ _ => by kernel_rfl⟩, fun _ l _ => easy_grants⟩
theorem m_wish (B k : Nat) (hk : k < 6) : ∃ g v, Meth g v (tys k) (rcv B k) "withy/policy.wish" ∧ ∀ W l (d : List UInt8), Pl.Lnk B W l → Plain l → d.length ≤ 140737488355328 → Calls Try.prog g #[v, .string ⟨d.toArray⟩] W fun e w' => e = .returned (.string ⟨(wishAt l k d).toArray⟩) ∧ Below W.heap.size W w' :=
  match k, hk with
  | 0, _ => ⟨60, num B 0 2, ⟨fun _ _ => by kernel_rfl, fun _ _ => by kernel_rfl⟩, fun _ l d _ _ hd => unit_wish d hd⟩
  | 1, _ => ⟨63, num B 1 4, ⟨fun _ _ => by kernel_rfl, fun _ _ => by kernel_rfl⟩, fun _ l d h p hd => magic_wish _ d hd p.2.1 p.2.2.2.2.2 (h.cell 1 _ rfl)⟩
  | 2, _ => ⟨60, num B 2 2, ⟨fun _ _ => by kernel_rfl, fun _ _ => by kernel_rfl⟩, fun _ l d _ _ hd => unit_wish d hd⟩
  | 3, _ => ⟨49, .agg #[], ⟨fun _ _ => by kernel_rfl, fun _ _ => by kernel_rfl⟩, fun _ l d _ _ _ => easy_wish d⟩
  | 4, _ => ⟨49, .agg #[], ⟨fun _ _ => by kernel_rfl, fun _ _ => by kernel_rfl⟩, fun _ l d _ _ _ => easy_wish d⟩
  | 5, _ => ⟨49, .agg #[], ⟨fun _ _ => by kernel_rfl, fun _ _ => by kernel_rfl⟩, fun _ l d _ _ _ => easy_wish d⟩
end Go.Proofs.Ytiadndcodjpijaa.Pr
