/-
  Plain: frames one behind the other, split again.
-/
import Derived.Test.YtnkkompmdngkgaaRMath2
namespace Go.Proofs.Ytnkkompmdngkgaa.Frm
abbrev Fm := Nat × List UInt8
def row (m : Int) (fs : List Fm) : List UInt8 := fs.flatMap fun f => [126] ++ wire m f.1 f.2 ++ [126]
theorem row_snoc (m : Int) (fs : List Fm) (f : Fm) : row m (fs ++ [f]) = row m fs ++ ([126] ++ wire m f.1 f.2 ++ [126]) := by simp [row]
def wires (m : Int) (fs : List Fm) : List (List UInt8) := fs.map fun f => wire m f.1 f.2
theorem wires_snoc (m : Int) (fs : List Fm) (f : Fm) : wires m (fs ++ [f]) = wires m fs ++ [wire m f.1 f.2] := by simp [wires]
theorem srun_row (m : Int) (n : Nat) : ∀ fs : List Fm, fs.length = n → (Stf.srun (row m fs)).1 = wires m fs ∧ (Stf.srun (row m fs)).2.2 = [] := by
  induction n with
  | zero =>
    intro fs h
    obtain rfl := List.length_eq_zero_iff.1 h
    exact ⟨rfl, rfl⟩
  | succ n ih =>
    intro fs h
    have hne : fs ≠ [] := by rintro rfl; simp at h
    obtain ⟨init, p, rfl⟩ : ∃ init p, fs = init ++ [p] := ⟨fs.dropLast, fs.getLast hne, (List.dropLast_concat_getLast hne).symm⟩
    obtain ⟨h1, h2⟩ := ih init (by simpa using h)
    have hw := (wire_length m p.1 p.2).1
    have hnf : 126 ∉ wire m p.1 p.2 := Stf.put_noflag m _
    have e : row m (init ++ [p]) = ((row m init ++ [126]) ++ wire m p.1 p.2) ++ [126] := by rw [row_snoc]; simp
    have e1 : Stf.srun (row m init ++ [126]) = (wires m init, true, []) := by rw [Stf.srun_flag, h1, h2]; simp
    rw [e, Stf.srun_flag, Stf.srun_noflag _ _ hnf, e1, wires_snoc]
    have hne2 : wire m p.1 p.2 ≠ [] := by intro h0; rw [h0] at hw; simp at hw
    simp [hne2]
theorem split_row (m : Int) (fs : List Fm) : Stf.split (row m fs) = (wires m fs, []) := by
  obtain ⟨h1, h2⟩ := srun_row m _ fs rfl
  rw [Stf.split, h1, h2]
/-- The frames that are kept of the first k: those whose bytes are not too many. -/
def kept (pr : Nat → Nat) (ds : Nat → List UInt8) : Nat → List Fm
  | 0 => []
  | k + 1 => if 2048 < (ds k).length then kept pr ds k else kept pr ds k ++ [(pr k, ds k)]
theorem kept_long (pr : Nat → Nat) (ds : Nat → List UInt8) (k : Nat) (h : 2048 < (ds k).length) : kept pr ds (k + 1) = kept pr ds k := by rw [kept, if_pos h]
theorem kept_short (pr : Nat → Nat) (ds : Nat → List UInt8) (k : Nat) (h : ¬ 2048 < (ds k).length) : kept pr ds (k + 1) = kept pr ds k ++ [(pr k, ds k)] := by rw [kept, if_neg h]
theorem kept_length (pr : Nat → Nat) (ds : Nat → List UInt8) (k : Nat) : (kept pr ds k).length ≤ k := by
  induction k with
  | zero => simp [kept]
  | succ k ih =>
    rw [kept]
    split
    · omega
    · simp; omega
theorem kept_good (pr : Nat → Nat) (ds : Nat → List UInt8) (hp : ∀ i, good (pr i) = true) (k : Nat) : ∀ f ∈ kept pr ds k, good (f.1 : Int) = true ∧ f.2.length ≤ 2048 := by
  induction k with
  | zero => intro f h; cases h
  | succ k ih =>
    rw [kept]
    split
    · exact ih
    · intro f h
      rcases List.mem_append.1 h with h | h
      · exact ih f h
      · rw [List.mem_singleton.1 h]
        exact ⟨hp k, by simp; omega⟩
theorem row_length (m : Int) (fs : List Fm) (h : ∀ f ∈ fs, f.2.length ≤ 2048) : (row m fs).length ≤ 4110 * fs.length := by
  induction fs with
  | nil => simp [row]
  | cons f r ih =>
    have h1 := ih (fun x hx => h x (by simp [hx]))
    have h2 := (wire_length m f.1 f.2).2
    have h3 := h f (by simp)
    have e : row m (f :: r) = ([126] ++ wire m f.1 f.2 ++ [126]) ++ row m r := by simp [row]
    rw [e, List.length_append, List.length_cons]
    simp
    omega
end Go.Proofs.Ytnkkompmdngkgaa.Frm
