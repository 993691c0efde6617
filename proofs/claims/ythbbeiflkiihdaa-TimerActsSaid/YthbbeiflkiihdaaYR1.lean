/-
  The document's own timers: an id's place.
-/
import Derived.Test.YthbbeiflkiihdaaY8
import Derived.Deep.QuietTactic
import Derived.BigQuiet
namespace Go.Proofs.Ythbbeiflkiihdaa.Tim
/-- The first place of an id from k on. -/
def spot (id : Int) : List T → Nat → Option Nat
  | [], _ => none
  | x :: r, k => if x.1 = id then some k else spot id r (k + 1)
theorem spot_none (id : Int) : ∀ (S : List T) (k : Nat), has S id = false → spot id S k = none
  | [], _, _ => rfl
  | x :: r, k, h => by
    have h1 := (has_false _ _).1 h
    unfold spot
    rw [if_neg (h1 x (List.mem_cons_self ..)), spot_none id r (k + 1) ((has_false _ _).2 fun y hy => h1 y (List.mem_cons_of_mem _ hy))]
theorem spot_some (id : Int) : ∀ (S : List T) (k : Nat), has S id = true → ∃ j, spot id S k = some (k + j) ∧ j < S.length ∧ (S.Pairwise (fun a b => a.1 ≠ b.1) → del S id = S.take j ++ S.drop (j + 1))
  | [], _, h => by simp [has] at h
  | x :: r, k, h => by
    unfold spot
    by_cases e : x.1 = id
    · rw [if_pos e]
      refine ⟨0, rfl, by simp, fun hp => ?_⟩
      rw [List.pairwise_cons] at hp
      unfold del
      rw [List.filter_cons_of_neg (by simpa using e)]
      exact del_none r id fun y hy => by rw [← e]; exact (hp.1 y hy).symm
    · rw [if_neg e]
      have h2 : has r id = true := by
        obtain ⟨y, hy, he⟩ := (has_iff _ _).1 h
        rcases List.mem_cons.1 hy with rfl | hy
        · exact absurd he e
        · exact (has_iff _ _).2 ⟨y, hy, he⟩
      obtain ⟨j, h3, h4, h5⟩ := spot_some id r (k + 1) h2
      refine ⟨j + 1, by rw [h3]; congr 1; omega, by simp; omega, fun hp => ?_⟩
      rw [List.pairwise_cons] at hp
      unfold del
      rw [List.filter_cons_of_pos (by simpa using e)]
      have := h5 hp.2
      unfold del at this
      rw [this]
      rfl
theorem spot_drop (id : Int) (S : List T) (k : Nat) (hk : k < S.length) : spot id (S.drop k) k = if (g S k).1 = id then some k else spot id (S.drop (k + 1)) (k + 1) := by
  rw [List.drop_eq_getElem_cons hk, ← g_eq S k hk]
  rfl
end Go.Proofs.Ythbbeiflkiihdaa.Tim
namespace Go.Proofs.Ythbbeiflkiihdaa.Y
open Go.RowKit
/-- The place as an integer, -1 if there is none. -/
def spotI : Option Nat → Int
  | none => -1
  | some k => k
set_option maxHeartbeats 1600000 in
theorem place_any (B : Nat) (v : Value) (S : List Tim.T) (id : Int) (w : World) (h : Rf B v w S) (hl : S.length ≤ 256) :
    Calls Try.prog 20 #[.pointer (some ⟨B, 0, none⟩), .int .i64 id] w fun e w' => e = .returned (.int .i64 (spotI (Tim.spot id S 0))) ∧ Below w.heap.size w w' := by
  obtain ⟨p, cap, rfl⟩ := h.form
  have H := Lib.hid h
  have c0 := h.box.cell 0 _ rfl
  have hB := h.lt
  generalize hr : Tim.spot id S 0 = r
  have HR := Lib.hid hr
  clear h hr
  go_enter Try.func20, Try.ntmps20
  go_wp2_with fail
  go_loopw [5] (fun i wr => ∃ k : Nat, k ≤ S.length ∧ i = .int .i64 k ∧ Tim.spot id (S.drop k) k = r ∧ Below w.heap.size w wr) (fun i _ => S.length - (intOf i).toNat)
  case atStart => exact ⟨0, by omega, rfl, HR.out, Below.refl _ _⟩
  case round =>
    obtain ⟨k, hk, rfl, hs, hb⟩ := hrel
    have HS := Lib.hid hs
    have HB := Lib.hid hb
    rw [← hb.cell (p := ⟨B, 0, none⟩) hB] at c0
    clear hs hb HR
    by_cases hlt : k < S.length
    · obtain ⟨G, cap2, e, _, _, hG⟩ := H.out.arr.full (by omega)
      simp only [Value.slice.injEq, true_and] at e
      obtain ⟨rfl, rfl⟩ := e
      have c1 := (H.out.below HB.out).arr.cells k hlt
      have c1 := c1.1
      have hi := indexX G S.length cap k hlt
      have HE := Tim.spot_drop id S k hlt
      rw [HS.out] at HE
      have HE := Lib.hid HE
      obtain ⟨o8, ho8⟩ : ∃ o8, o8 = 2 * k := ⟨_, rfl⟩
      rw [← ho8] at hi c1
      clear ho8
      generalize (Tim.g S k).1 = z at *
      by_cases hz : z = id
      · subst hz
        have HV : Hid (r = some k) := Lib.hid (by have := HE.out; rwa [if_pos rfl] at this)
        clear HE
        go_wp2_with fail
        go_ret
        exact ⟨by first | rfl | (rw [HV.out]; rfl) | (simp only [HV.out]; rfl), HB.out⟩
      · have HV : Hid (Tim.spot id (S.drop (k + 1)) (k + 1) = r) := Lib.hid (by have := HE.out; rw [if_neg hz] at this; exact this.symm)
        have q1 : decide (z = id) = false := decide_eq_false hz
        have q2 : (z == id) = false := by simpa using hz
        clear HE
        go_wp2_with fail
        go_roundw
        case rel => exact ⟨k + 1, by omega, by go_num, HV.out, HB.out⟩
        case measure => simp [intOf]; omega
    · have HV : Hid (r = none) := Lib.hid (by have := HS.out; rw [List.drop_eq_nil_of_le (by omega)] at this; exact this.symm)
      go_wp2_with fail
      go_ret
      exact ⟨by first | rfl | (rw [HV.out]; rfl) | (simp only [HV.out]; rfl), HB.out⟩
end Go.Proofs.Ythbbeiflkiihdaa.Y
