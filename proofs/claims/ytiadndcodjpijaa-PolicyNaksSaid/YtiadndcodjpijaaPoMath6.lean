/-
  Stage 14, plain: three options, naked as they must be, then taken.
-/
import Derived.Test.YtiadndcodjpijaaPoMath3
namespace Go.Proofs.Ytiadndcodjpijaa.Pol
def ownM (m : Int) : Lk := ⟨0, m, 0, false, [], 0⟩
theorem ownM_may (m : Int) (h0 : 0 ≤ m) (h1 : m ≤ 4294967295) : may (ownM m) = true := by
  rw [may_iff]
  exact ⟨rfl, rfl, h0, h1, by simp [ownM], by simp [ownM], by simp [ownM]⟩
def three (U E V : List UInt8) : List Op := [(1, U), (5, E), (17, V)]
theorem three_right (U E V : List UInt8) (hU : U.length = 2) (hE : E.length = 4) (hV : V.length = 2) : ∀ o ∈ three U E V, right o = true := by
  intro o ho
  simp only [three, List.mem_cons, List.not_mem_nil, or_false] at ho
  rcases ho with rfl | rfl | rfl
  · simp [right, hU]
  · simp [right, hE]
  · simp [right, hV]
theorem three_bad (m : Int) (U E V : List UInt8) (hU : U.length = 2) (hE : E.length = 4) (hV : V.length = 2) : ∀ k, k < 3 → bad (ownM m) (three U E V) k = false := by
  intro k hk
  have hr := three_right U E V hU hE hV _ (g_mem _ k hk)
  have hn : ((three U E V).map (·.1)).Nodup := by simp [three]
  unfold bad
  rw [hr, twice_none _ hn k hk]
  match k, hk with
  | 0, _ => rfl
  | 1, _ => rfl
  | 2, _ => rfl
theorem better_one (m k : Int) (U : List UInt8) (hk : k = 1 ∨ k = 17) : better Pl.nm (ownM m) (k, U) = if unit (Pl.nm U) = true then none else some (k, be 2 1500) := by
  unfold better
  by_cases h : unit (Pl.nm U) = true
  · rw [if_neg (fun x => by rw [h] at x; exact absurd x.2 (by decide)), if_neg (fun x => by have := x.1; simp only at this; omega), if_pos h]
  · have h2 : unit (Pl.nm U) = false := by simpa using h
    rw [if_pos ⟨hk, h2⟩, if_neg h]
theorem better_five (m : Int) (E : List UInt8) : better Pl.nm (ownM m) (5, E) = if Pl.nm E = 0 ∨ Pl.nm E = m then some (5, be 4 (turn m).toNat) else none := by
  unfold better
  rw [if_neg (fun x => by have := x.1; simp only at this; omega)]
  by_cases h : Pl.nm E = 0 ∨ Pl.nm E = m
  · rw [if_pos ⟨rfl, h⟩, if_pos h]
    rfl
  · rw [if_neg (fun x => h x.2), if_neg h]
theorem three_judge (m : Int) (h0 : 0 ≤ m) (h1 : m ≤ 4294967295) (U E V : List UInt8) (hU : U.length = 2) (hE : E.length = 4) (hV : V.length = 2) (ns : List Op)
    (hns : (if unit (Pl.nm U) = true then none else some ((1 : Int), be 2 1500)).toList ++ (if Pl.nm E = 0 ∨ Pl.nm E = m then some ((5 : Int), be 4 (turn m).toNat) else none).toList ++ (if unit (Pl.nm V) = true then none else some ((17 : Int), be 2 1500)).toList = ns) :
    judge Pl.nm (ownM m) (three U E V) = if ns ≠ [] then (1, ns, 0) else (0, three U E V, 0) := by
  have hb := three_bad m U E V hU hE hV
  have hr := rejs_none (ownM m) (three U E V) 3 hb
  have hn : naks Pl.nm (ownM m) (three U E V) 3 = ns := by
    rw [← hns]
    unfold naks naks naks naks
    rw [hb 0 (by decide), hb 1 (by decide), hb 2 (by decide)]
    show [] ++ (better Pl.nm (ownM m) (1, U)).toList ++ (better Pl.nm (ownM m) (5, E)).toList ++ (better Pl.nm (ownM m) (17, V)).toList = _
    rw [better_one m 1 U (.inl rfl), better_five, better_one m 17 V (.inr rfl)]
    rfl
  unfold judge
  rw [ownM_may m h0 h1, fits_of _ (three_right U E V hU hE hV), Bool.and_self, if_pos rfl]
  show (if rejs (ownM m) (three U E V) 3 ≠ [] then _ else if naks Pl.nm (ownM m) (three U E V) 3 ≠ [] then _ else _) = _
  rw [hr, if_neg (by simp)]
  show (if naks Pl.nm (ownM m) (three U E V) 3 ≠ [] then ((1 : Int), naks Pl.nm (ownM m) (three U E V) 3, (0 : Int)) else _) = _
  rw [hn]
end Go.Proofs.Ytiadndcodjpijaa.Pol
