/-
  Numbers of a few bytes as a machine reckons them: back and forth.
  Stage 14, plain: what a link asks for, judged, learnt, taken.
  Stage 14, plain: what a link asks for is taken as it; what was learnt.
  Stage 14, plain: to learn the same again turns nothing more.
  Stage 15, plain: a side of a link, negotiating: what it sends, what it comes to.
  Stage 14, plain: one round of asking, being judged, learning.
  Stage 15, plain: a side as the program keeps it: what its acts do, and that this is what the document's side does.
  Stage 15, plain: a side that has been opened, an answer to an elder request, a side that nobody answers.
-/
import Derived.Test.YteabkmelnoefiaaGreatDoorZ02
import Derived.Test.YteabkmelnoefiaaGreatDoorZ01
import Derived.KernelRfl
namespace Go.Proofs.YteabkmelnoefiaaGreatDoor.Pol
theorem val_go (l : List UInt8) : ∀ x : Nat, l.foldl (fun x b => x * 256 + b.toNat) x = x * 256 ^ l.length + val l := by
  induction l with
  | nil => intro x; simp [val]
  | cons b r ih =>
    intro x
    have e : val (b :: r) = b.toNat * 256 ^ r.length + val r := by
      show r.foldl (fun x b => x * 256 + b.toNat) (0 * 256 + b.toNat) = _
      rw [ih, Nat.zero_mul, Nat.zero_add]
    rw [List.foldl_cons, ih, e, List.length_cons, Nat.pow_succ, Nat.add_mul, Nat.mul_assoc, Nat.mul_comm 256, Nat.add_assoc]
theorem val_cons (b : UInt8) (r : List UInt8) : val (b :: r) = b.toNat * 256 ^ r.length + val r := by
  have e := val_go r (0 * 256 + b.toNat)
  show r.foldl (fun x b => x * 256 + b.toNat) (0 * 256 + b.toNat) = _
  rw [e, Nat.zero_mul, Nat.zero_add]
theorem val_lt (l : List UInt8) : val l < 256 ^ l.length := by
  induction l with
  | nil => simp [val]
  | cons b r ih =>
    have hb := b.toNat_lt
    rw [val_cons, List.length_cons, Nat.pow_succ, Nat.mul_comm (256 ^ r.length)]
    have : b.toNat * 256 ^ r.length ≤ 255 * 256 ^ r.length := Nat.mul_le_mul_right _ (by omega)
    omega
theorem val_be (m : Nat) : ∀ n, n < 256 ^ m → val (be m n) = n := by
  have h : ∀ m n, val (be m n) = n % 256 ^ m := by
    intro m
    induction m with
    | zero => intro n; simp [be, val, Nat.mod_one]
    | succ j ih =>
      intro n
      show val (UInt8.ofNat (n / 256 ^ j) :: be j n) = _
      rw [val_cons, ih, be_length, Nat.pow_succ, Nat.mod_mul]
      simp only [UInt8.toNat_ofNat']
      rw [Nat.mul_comm, Nat.add_comm]
  intro n hn
  rw [h, Nat.mod_eq_of_lt hn]
end Go.Proofs.YteabkmelnoefiaaGreatDoor.Pol
namespace Go.Proofs.YteabkmelnoefiaaGreatDoor.Pl
open Go.RowKit
theorem more_nat (x b : Nat) (hx : x < 36028797018963968) (hb : b < 256) : more (x : Int) (b : Int) = ((x * 256 + b : Nat) : Int) := by
  unfold more
  have e1 : wrap64 ((x : Int) * 256) = ((256 * x : Nat) : Int) := by rw [IntWalk.wrap64_in _ ⟨by omega, by omega⟩]; omega
  have e2 : wrap64 (b : Int) = (b : Int) := IntWalk.wrap64_in _ ⟨by omega, by omega⟩
  rw [e1, e2, i64_or_nat _ _ (by omega) (by omega)]
  have h := Nat.two_pow_add_eq_or_of_lt (i := 8) (b := b) (by omega) x
  have h2 : 256 * x ||| b = 256 * x + b := by simpa using h.symm
  rw [h2]
  congr 1
  omega
theorem nm_go (l : List UInt8) : ∀ x : Nat, (x + 1) * 256 ^ l.length ≤ 36028797018963968 → l.foldl (fun (x : Int) b => more x (b.toNat : Int)) (x : Int) = ((l.foldl (fun x b => x * 256 + b.toNat) x : Nat) : Int) := by
  induction l with
  | nil => intro x _; rfl
  | cons b r ih =>
    intro x hx
    have hb := b.toNat_lt
    have hp : 1 ≤ 256 ^ r.length := Nat.one_le_pow _ _ (by omega)
    rw [List.length_cons, Nat.pow_succ, Nat.mul_comm (256 ^ r.length), ← Nat.mul_assoc] at hx
    have h1 : (x + 1) * 256 * 1 ≤ (x + 1) * 256 * 256 ^ r.length := Nat.mul_le_mul_left _ hp
    rw [List.foldl_cons, List.foldl_cons, more_nat x b.toNat (by omega) (by omega)]
    refine ih _ (Nat.le_trans (Nat.mul_le_mul_right _ ?_) hx)
    omega
/-- A number of at most six bytes. -/
theorem nm_val (l : List UInt8) (h : l.length ≤ 6) : nm l = ((Pol.val l : Nat) : Int) := by
  refine nm_go l 0 ?_
  have : 256 ^ l.length ≤ 256 ^ 6 := Nat.pow_le_pow_right (by omega) h
  omega
theorem nm_be (m n : Nat) (hm : m ≤ 6) (h : n < 256 ^ m) : nm (Pol.be m n) = (n : Int) := by
  rw [nm_val _ (by rw [Pol.be_length]; exact hm), Pol.val_be m n h]
theorem nm_bounds (l : List UInt8) (h : l.length ≤ 6) : 0 ≤ nm l ∧ nm l < ((256 ^ l.length : Nat) : Int) := by
  rw [nm_val l h]
  have := Pol.val_lt l
  omega
end Go.Proofs.YteabkmelnoefiaaGreatDoor.Pl
namespace Go.Proofs.YteabkmelnoefiaaGreatDoor.Pol
/-- What a link would ask for if it asked for all. -/
def full (l : Lk) : List Op := [(1, be 2 l.mru.toNat), (5, be 4 l.magic.toNat), (17, be 2 l.mrru.toNat), (18, []), (19, l.disc), (23, be 2 l.num.toNat)]
theorem sub_if (c : Prop) [Decidable c] (o : Op) : (if c then [] else [o]).Sublist [o] := by
  split
  · exact List.nil_sublist _
  · exact List.Sublist.refl _
theorem sub_ifb (c : Bool) (o : Op) : (if c then [o] else []).Sublist [o] := by
  cases c
  · exact List.nil_sublist _
  · exact List.Sublist.refl _
theorem asks_sub (l : Lk) : (asks l).Sublist (full l) := by
  have h : full l = [(1, be 2 l.mru.toNat)] ++ [(5, be 4 l.magic.toNat)] ++ [(17, be 2 l.mrru.toNat)] ++ [(18, [])] ++ [(19, l.disc)] ++ [(23, be 2 l.num.toNat)] := rfl
  rw [h]
  unfold asks opt
  exact ((((((sub_if _ _).append (sub_if _ _)).append (sub_if _ _)).append (sub_ifb _ _)).append (sub_if _ _)).append (sub_if _ _))
theorem asks_kinds (l : Lk) : ((asks l).map (·.1)).Nodup := by
  have h := (asks_sub l).map (·.1)
  exact h.nodup (by simp [full])
/-- An element of what a link asks for. -/
theorem asks_mem (l : Lk) (o : Op) (h : o ∈ asks l) : (o = (1, be 2 l.mru.toNat) ∧ l.mru ≠ 0) ∨ (o = (5, be 4 l.magic.toNat) ∧ l.magic ≠ 0) ∨ (o = (17, be 2 l.mrru.toNat) ∧ l.mrru ≠ 0) ∨ (o = (18, []) ∧ l.short = true) ∨ (o = (19, l.disc) ∧ l.disc ≠ []) ∨ (o = (23, be 2 l.num.toNat) ∧ l.num ≠ 0) := by
  unfold asks opt at h
  simp only [List.mem_append] at h
  rcases h with ((((h | h) | h) | h) | h) | h
  · split at h
    · cases h
    · exact .inl ⟨by simpa using h, by assumption⟩
  · split at h
    · cases h
    · exact .inr (.inl ⟨by simpa using h, by assumption⟩)
  · split at h
    · cases h
    · exact .inr (.inr (.inl ⟨by simpa using h, by assumption⟩))
  · split at h
    · exact .inr (.inr (.inr (.inl ⟨by simpa using h, by assumption⟩)))
    · cases h
  · split at h
    · cases h
    · exact .inr (.inr (.inr (.inr (.inl ⟨by simpa using h, by assumption⟩))))
  · split at h
    · cases h
    · exact .inr (.inr (.inr (.inr (.inr ⟨by simpa using h, by assumption⟩))))
theorem size_iff (x : Int) : size x = true ↔ x = 0 ∨ (128 ≤ x ∧ x ≤ 1500) := by
  unfold size unit
  simp
theorem right_asks (l : Lk) (hm : may l = true) (o : Op) (h : o ∈ asks l) : right o = true := by
  obtain ⟨_, _, _, _, h5, _, _⟩ := (may_iff l).1 hm
  rcases asks_mem l o h with ⟨rfl, _⟩ | ⟨rfl, _⟩ | ⟨rfl, _⟩ | ⟨rfl, _⟩ | ⟨rfl, hd⟩ | ⟨rfl, _⟩
  · simp [right, be_length]
  · simp [right, be_length]
  · simp [right, be_length]
  · simp [right]
  · have : 1 ≤ l.disc.length := List.length_pos_iff.2 hd
    simp [right, this, h5]
  · simp [right, be_length]
theorem asks_range (l : Lk) : ∀ o ∈ asks l, 0 ≤ o.1 ∧ o.1 ≤ 255 := by
  intro o h
  rcases asks_mem l o h with h | h | h | h | h | h <;> (obtain ⟨rfl, _⟩ := h; simp)
theorem asks_length (l : Lk) : (asks l).length ≤ 6 := (asks_sub l).length_le
theorem fit_right (o : Op) (h : right o = true) : fit o = true := by
  unfold right at h
  unfold fit
  split at h
  · rename_i hk
    simp at h ⊢
    omega
  · split at h
    · rename_i hk
      simp at h ⊢
      omega
    · split at h
      · rename_i hk
        simp at h ⊢
        rw [h]
        simp
        omega
      · split at h
        · rename_i hk
          simp at h ⊢
          omega
        · cases h
theorem fits_of (os : List Op) (h : ∀ o ∈ os, right o = true) : fits os = true := List.all_eq_true.2 fun o ho => fit_right o (h o ho)
theorem g_mem (os : List Op) (k : Nat) (h : k < os.length) : g os k ∈ os := by rw [g_eq os k h]; exact List.getElem_mem h
theorem g_fst (os : List Op) (k : Nat) (h : k < os.length) : (os.map (·.1))[k]? = some (g os k).1 := by rw [List.getElem?_map, g_eq os k h, List.getElem?_eq_getElem h]; rfl
theorem kind_inj (os : List Op) (hn : (os.map (·.1)).Nodup) (j k : Nat) (hj : j < os.length) (hk : k < os.length) (h : (g os j).1 = (g os k).1) : j = k := by
  have e : (os.map (·.1))[j]? = (os.map (·.1))[k]? := by rw [g_fst os j hj, g_fst os k hk, h]
  exact (List.getElem?_inj (by simpa using hj) hn).1 e
theorem twice_none (os : List Op) (hn : (os.map (·.1)).Nodup) (k : Nat) (hk : k < os.length) : twice os k = false := by
  unfold twice
  rw [List.any_eq_false]
  intro o ho
  obtain ⟨j, hj, e⟩ := List.mem_take_iff_getElem.1 ho
  have hjk : j < k := by omega
  have hne : (g os j).1 ≠ (g os k).1 := fun h => by
    have := kind_inj os hn j k (by omega) hk h
    omega
  rw [g_eq os j (by omega), e] at hne
  simpa using hne
theorem rejs_none (own : Lk) (os : List Op) (n : Nat) (h : ∀ k, k < n → bad own os k = false) : rejs own os n = [] := by
  induction n with
  | zero => rfl
  | succ n ih => simp [rejs, ih (fun k hk => h k (by omega)), h n (by omega)]
theorem rejs_one (own : Lk) (os : List Op) (n k0 : Nat) (h0 : k0 < n) (h : ∀ k, k < n → bad own os k = decide (k = k0)) : rejs own os n = [g os k0] := by
  induction n with
  | zero => omega
  | succ n ih =>
    by_cases e : k0 = n
    · subst e
      have hr := rejs_none own os k0 (fun k hk => by rw [h k (by omega), decide_eq_false (by omega)])
      simp [rejs, hr, h k0 (by omega)]
    · have hr := ih (by omega) (fun k hk => h k (by omega))
      have hb : bad own os n = false := by rw [h n (by omega), decide_eq_false (by omega)]
      simp [rejs, hr, hb]
section
variable (nm : List UInt8 → Int)
theorem naks_none (own : Lk) (os : List Op) (n : Nat) (h : ∀ k, k < n → bad own os k = false ∧ better nm own (g os k) = none) : naks nm own os n = [] := by
  induction n with
  | zero => rfl
  | succ n ih => simp [naks, ih (fun k hk => h k (by omega)), (h n (by omega)).1, (h n (by omega)).2]
theorem naks_one (own : Lk) (os : List Op) (n k0 : Nat) (o : Op) (h0 : k0 < n) (hb : ∀ k, k < n → bad own os k = false) (h1 : better nm own (g os k0) = some o) (h : ∀ k, k < n → k ≠ k0 → better nm own (g os k) = none) : naks nm own os n = [o] := by
  induction n with
  | zero => omega
  | succ n ih =>
    by_cases e : k0 = n
    · subst e
      have hr := naks_none nm own os k0 (fun k hk => ⟨hb k (by omega), h k (by omega) (by omega)⟩)
      simp [naks, hr, hb k0 (by omega), h1]
    · have hr := ih (by omega) (fun k hk => hb k (by omega)) (fun k hk => h k (by omega))
      simp [naks, hr, hb n (by omega), h n (by omega) (fun x => e x.symm)]
end
theorem turn_bounds (m : Int) (h0 : 0 ≤ m) (h1 : m ≤ 4294967295) : 1 ≤ turn m ∧ turn m ≤ 4294967295 ∧ turn m ≠ m := by
  unfold turn
  split <;> omega
/-- What a link asks for, judged by one that may be. -/
theorem judge_asks (a b : Lk) (ha : may a = true) (hb : may b = true) : judge Pl.nm b (asks a) =
    if a.short = true ∧ b.short = false then (2, [(18, [])], 0) else if a.magic ≠ 0 ∧ a.magic = b.magic then (1, [(5, be 4 (turn b.magic).toNat)], 0) else (0, asks a, 0) := by
  have hr := right_asks a ha
  have hn := asks_kinds a
  have hbad : ∀ k, k < (asks a).length → bad b (asks a) k = ((g (asks a) k).1 == 18 && !b.short) := fun k hk => by
    unfold bad
    rw [hr _ (g_mem _ k hk), twice_none _ hn k hk]
    rfl
  obtain ⟨g1, g2, g3, g4, g5, g6, g7⟩ := (may_iff a).1 ha
  have hfit := fits_of _ hr
  unfold judge
  rw [hb, hfit, Bool.and_self, if_pos rfl]
  by_cases hs : a.short = true ∧ b.short = false
  · rw [if_pos hs]
    have hm : ((18, []) : Op) ∈ asks a := by unfold asks; simp [hs.1]
    obtain ⟨k0, hk0, e0⟩ := List.mem_iff_getElem.1 hm
    have hrj := rejs_one b (asks a) (asks a).length k0 hk0 (fun k hk => by
      rw [hbad k hk, hs.2]
      by_cases e : k = k0
      · subst e
        rw [g_eq _ k hk, e0]
        simp
      · have : (g (asks a) k).1 ≠ 18 := fun h => e (kind_inj _ hn k k0 hk hk0 (by rw [h, g_eq _ k0 hk0, e0]))
        rw [decide_eq_false e]
        simpa using this)
    rw [hrj, g_eq _ k0 hk0, e0]
    simp
  · rw [if_neg hs]
    have hno : ∀ k, k < (asks a).length → bad b (asks a) k = false := fun k hk => by
      rw [hbad k hk]
      rcases asks_mem a _ (g_mem _ k hk) with ⟨e, _⟩ | ⟨e, _⟩ | ⟨e, _⟩ | ⟨e, h⟩ | ⟨e, _⟩ | ⟨e, _⟩ <;> rw [e]
      · rfl
      · rfl
      · rfl
      · have : b.short = true := by
          cases hb2 : b.short
          · exact absurd ⟨h, hb2⟩ hs
          · rfl
        rw [this]
        rfl
      · rfl
      · rfl
    rw [rejs_none _ _ _ hno]
    simp only [ne_eq, not_true_eq_false, if_false]
    have hunit : ∀ x : Int, size x = true → x ≠ 0 → unit (Pl.nm (be 2 x.toNat)) = true := fun x hx h0 => by
      rcases (size_iff x).1 hx with h | h
      · exact absurd h h0
      · rw [Pl.nm_be 2 _ (by omega) (by omega), Int.toNat_of_nonneg (by omega)]
        unfold unit
        simp [h]
    have hbet : ∀ k, k < (asks a).length → better Pl.nm b (g (asks a) k) = if (g (asks a) k).1 = 5 ∧ a.magic = b.magic then some (5, be 4 (turn b.magic).toNat) else none := fun k hk => by
      rcases asks_mem a _ (g_mem _ k hk) with ⟨e, h⟩ | ⟨e, h⟩ | ⟨e, h⟩ | ⟨e, h⟩ | ⟨e, h⟩ | ⟨e, h⟩ <;> rw [e] <;> unfold better
      · simp [hunit _ g1 h]
      · have : Pl.nm (be 4 a.magic.toNat) = a.magic := by rw [Pl.nm_be 4 _ (by omega) (by omega), Int.toNat_of_nonneg g3]
        simp [this, h]
      · simp [hunit _ g2 h]
      · simp
      · simp
      · simp
    by_cases hm : a.magic ≠ 0 ∧ a.magic = b.magic
    · rw [if_pos hm]
      have hmem : ((5, be 4 a.magic.toNat) : Op) ∈ asks a := by unfold asks opt; simp [hm.1]
      obtain ⟨k0, hk0, e0⟩ := List.mem_iff_getElem.1 hmem
      have hna := naks_one Pl.nm b (asks a) (asks a).length k0 (5, be 4 (turn b.magic).toNat) hk0 hno (by
        rw [hbet k0 hk0, g_eq _ k0 hk0, e0, if_pos ⟨rfl, hm.2⟩]) (fun k hk hne => by
        rw [hbet k hk, if_neg]
        rintro ⟨h5, _⟩
        exact hne (kind_inj _ hn k k0 hk hk0 (by rw [h5, g_eq _ k0 hk0, e0])))
      rw [hna]
      simp
    · rw [if_neg hm]
      have hna := naks_none Pl.nm b (asks a) (asks a).length (fun k hk => ⟨hno k hk, by
        rw [hbet k hk, if_neg]
        rintro ⟨h5, he⟩
        rcases asks_mem a _ (g_mem _ k hk) with ⟨e, h⟩ | ⟨e, h⟩ | ⟨e, h⟩ | ⟨e, h⟩ | ⟨e, h⟩ | ⟨e, h⟩ <;> rw [e] at h5
        · simp at h5
        · exact hm ⟨h, he⟩
        · simp at h5
        · simp at h5
        · simp at h5
        · simp at h5⟩)
      rw [hna]
      simp
end Go.Proofs.YteabkmelnoefiaaGreatDoor.Pol
namespace Go.Proofs.YteabkmelnoefiaaGreatDoor.Pol
abbrev nm := Pl.nm
theorem nm_num (x : Int) (m : Nat) (hm : m ≤ 6) (h0 : 0 ≤ x) (h1 : x < ((256 ^ m : Nat) : Int)) : Pl.nm (be m x.toNat) = x := by
  rw [Pl.nm_be m _ hm (by omega), Int.toNat_of_nonneg h0]
theorem take_opt1 (s : Lk) (x : Int) (hs : s.mru = 0) (h0 : 0 ≤ x) (h1 : x < 65536) : (opt 1 x 2).foldl (takes Pl.nm) s = { s with mru := x } := by
  unfold opt
  split
  · rename_i h
    subst h
    cases s
    simp only at hs
    simp [hs]
  · simp [takes, nm_num x 2 (by omega) h0 (by simpa using h1)]
theorem take_opt5 (s : Lk) (x : Int) (hs : s.magic = 0) (h0 : 0 ≤ x) (h1 : x ≤ 4294967295) : (opt 5 x 4).foldl (takes Pl.nm) s = { s with magic := x } := by
  unfold opt
  split
  · rename_i h
    subst h
    cases s
    simp only at hs
    simp [hs]
  · simp [takes, nm_num x 4 (by omega) h0 (by omega)]
theorem take_opt17 (s : Lk) (x : Int) (hs : s.mrru = 0) (h0 : 0 ≤ x) (h1 : x < 65536) : (opt 17 x 2).foldl (takes Pl.nm) s = { s with mrru := x } := by
  unfold opt
  split
  · rename_i h
    subst h
    cases s
    simp only at hs
    simp [hs]
  · simp [takes, nm_num x 2 (by omega) h0 (by simpa using h1)]
theorem take_opt23 (s : Lk) (x : Int) (hs : s.num = 0) (h0 : 0 ≤ x) (h1 : x < 65536) : (opt 23 x 2).foldl (takes Pl.nm) s = { s with num := x } := by
  unfold opt
  split
  · rename_i h
    subst h
    cases s
    simp only at hs
    simp [hs]
  · simp [takes, nm_num x 2 (by omega) h0 (by simpa using h1)]
theorem take_opt18 (s : Lk) (b : Bool) (hs : s.short = false) : (if b then [((18, []) : Op)] else []).foldl (takes Pl.nm) s = { s with short := b } := by
  cases b
  · cases s
    simp only at hs
    simp [hs]
  · simp [takes]
theorem take_opt19 (s : Lk) (d : List UInt8) (hs : s.disc = []) : (if d = [] then [] else [((19, d) : Op)]).foldl (takes Pl.nm) s = { s with disc := d } := by
  split
  · rename_i h
    subst h
    cases s
    simp only at hs
    simp [hs]
  · simp [takes]
theorem allFine_of (os : List Op) (hr : ∀ o ∈ os, right o = true) (hn : (os.map (·.1)).Nodup) : ∀ n, n ≤ os.length → allFine os n = true
  | 0, _ => rfl
  | n + 1, h => by
    have e : fine os n = true := by
      unfold fine
      rw [hr _ (g_mem os n (by omega)), twice_none os hn n (by omega)]
      rfl
    unfold allFine
    rw [allFine_of os hr hn n (by omega), e]
    rfl
/-- What a link asks for is taken as it. -/
theorem taken_asks (a : Lk) (ha : may a = true) : taken Pl.nm (asks a) = (a, 0) := by
  obtain ⟨g1, g2, g3, g4, g5, g6, g7⟩ := (may_iff a).1 ha
  have u : ∀ x, size x = true → 0 ≤ x ∧ x < 65536 := fun x hx => by rcases (size_iff x).1 hx with h | h <;> omega
  have hf : (asks a).foldl (takes Pl.nm) zero = a := by
    unfold asks
    rw [List.foldl_append, List.foldl_append, List.foldl_append, List.foldl_append, List.foldl_append]
    rw [take_opt1 _ _ rfl (u _ g1).1 (u _ g1).2, take_opt5 _ _ rfl g3 g4, take_opt17 _ _ rfl (u _ g2).1 (u _ g2).2, take_opt18 _ _ rfl, take_opt19 _ _ rfl, take_opt23 _ _ rfl g6 (by omega)]
  unfold taken
  rw [hf, ha, allFine_of _ (right_asks a ha) (asks_kinds a) _ (Nat.le_refl _)]
  rfl
/-- What was rejected, what was naked, of what a link asks for. -/
theorem learn_short (a : Lk) (ha : may a = true) : learn Pl.nm a 4 [(18, [])] = ({ a with short := false }, 0) := by
  unfold learn
  rw [ha]
  simp [learns, lesson, right, without]
theorem learn_magic (a : Lk) (ha : may a = true) (hm : a.magic ≠ 0) (t : Int) (h0 : 1 ≤ t) (h1 : t ≤ 4294967295) : learn Pl.nm a 3 [(5, be 4 t.toNat)] = ({ a with magic := t }, 0) := by
  have e := nm_num t 4 (by omega) (by omega) (by omega)
  unfold learn
  rw [ha]
  have ht : t ≠ 0 := by omega
  simp [learns, lesson, right, be_length, taught, e, hm, ht]
/-- One field of a link, taught by a list. -/
def fld {α : Type} [DecidableEq α] (z : α) (f : Op → Option α) (x : α) (os : List Op) : α := os.foldl (fun x o => if x = z then x else (f o).getD x) x
theorem fld_zero {α : Type} [DecidableEq α] (z : α) (f : Op → Option α) (os : List Op) : fld z f z os = z := by
  induction os with
  | nil => rfl
  | cons o r ih =>
    show fld z f (if z = z then z else (f o).getD z) r = z
    rw [if_pos rfl, ih]
theorem fld_two {α : Type} [DecidableEq α] (z : α) (f : Op → Option α) (os : List Op) : ∀ x y, x ≠ z → y ≠ z → (fld z f x os = x ∧ fld z f y os = y) ∨ fld z f x os = fld z f y os := by
  induction os with
  | nil => exact fun x y _ _ => .inl ⟨rfl, rfl⟩
  | cons o r ih =>
    intro x y hx hy
    have ex : fld z f x (o :: r) = fld z f ((f o).getD x) r := by
      show fld z f (if x = z then x else (f o).getD x) r = _
      rw [if_neg hx]
    have ey : fld z f y (o :: r) = fld z f ((f o).getD y) r := by
      show fld z f (if y = z then y else (f o).getD y) r = _
      rw [if_neg hy]
    rw [ex, ey]
    cases h : f o with
    | none => simpa using ih x y hx hy
    | some v => exact .inr rfl
theorem fld_again {α : Type} [DecidableEq α] (z : α) (f : Op → Option α) (os : List Op) (x : α) : fld z f (fld z f x os) os = fld z f x os := by
  by_cases hx : x = z
  · rw [hx, fld_zero, fld_zero]
  · by_cases hy : fld z f x os = z
    · rw [hy, fld_zero]
    · rcases fld_two z f os x _ hx hy with ⟨_, h⟩ | h
      · exact h
      · exact h.symm
end Go.Proofs.YteabkmelnoefiaaGreatDoor.Pol
namespace Go.Proofs.YteabkmelnoefiaaGreatDoor.Pol
def F1 (code : Int) (o : Op) : Option Int := if right o = true ∧ o.1 = 1 then (if code = 4 then some 0 else if unit (Pl.nm o.2) = true then some (Pl.nm o.2) else none) else none
def F5 (code : Int) (o : Op) : Option Int := if right o = true ∧ o.1 = 5 then (if code = 4 then some 0 else if Pl.nm o.2 ≠ 0 then some (Pl.nm o.2) else none) else none
def F17 (code : Int) (o : Op) : Option Int := if right o = true ∧ o.1 = 17 then (if code = 4 then some 0 else if unit (Pl.nm o.2) = true then some (Pl.nm o.2) else none) else none
def F18 (code : Int) (o : Op) : Option Bool := if right o = true ∧ o.1 = 18 then (if code = 4 then some false else none) else none
def F19 (code : Int) (o : Op) : Option (List UInt8) := if right o = true ∧ o.1 = 19 then (if code = 4 then some [] else some o.2) else none
def F23 (code : Int) (o : Op) : Option Int := if right o = true ∧ o.1 = 23 then (if code = 4 then some 0 else some (Pl.nm o.2)) else none
def one {α : Type} [DecidableEq α] (z : α) (f : Op → Option α) (x : α) (o : Op) : α := if x = z then x else (f o).getD x
def parts (code : Int) (l : Lk) (os : List Op) : Lk := ⟨fld 0 (F1 code) l.mru os, fld 0 (F5 code) l.magic os, fld 0 (F17 code) l.mrru os, fld false (F18 code) l.short os, fld [] (F19 code) l.disc os, fld 0 (F23 code) l.num os⟩
theorem one_none {α : Type} [DecidableEq α] (z : α) (f : Op → Option α) (x : α) (o : Op) (h : f o = none) : one z f x o = x := by
  unfold one
  rw [h]
  split <;> rfl
theorem one_some {α : Type} [DecidableEq α] (z : α) (f : Op → Option α) (x v : α) (o : Op) (h : f o = some v) : one z f x o = if x = z then x else v := by
  unfold one
  rw [h]
  rfl
theorem ones_lesson (code : Int) (hc : code = 3 ∨ code = 4) (l : Lk) (o : Op) :
    lesson Pl.nm code l o = ⟨one 0 (F1 code) l.mru o, one 0 (F5 code) l.magic o, one 0 (F17 code) l.mrru o, one false (F18 code) l.short o, one [] (F19 code) l.disc o, one 0 (F23 code) l.num o⟩ := by
  obtain ⟨a, b, c, s, d, n⟩ := l
  by_cases hr : right o = true
  · rcases hc with rfl | rfl
    · unfold lesson
      rw [if_pos hr, if_neg (by decide)]
      unfold taught one F1 F5 F17 F18 F19 F23
      simp only [hr, true_and]
      by_cases k1 : o.1 = 1
      · simp [k1]
        split <;> split <;> simp_all
      · by_cases k5 : o.1 = 5
        · simp [k5]
          split <;> split <;> simp_all
        · by_cases k17 : o.1 = 17
          · simp [k17]
            split <;> split <;> simp_all
          · by_cases k18 : o.1 = 18
            · simp [k18]
            · by_cases k19 : o.1 = 19
              · simp [k19]
                split <;> simp_all
              · by_cases k23 : o.1 = 23
                · simp [k23]
                  split <;> simp_all
                · simp [k1, k5, k17, k18, k19, k23]
    · unfold lesson
      rw [if_pos hr, if_pos rfl]
      unfold without one F1 F5 F17 F18 F19 F23
      simp only [hr, true_and]
      by_cases k1 : o.1 = 1
      · simp [k1]
        omega
      · by_cases k5 : o.1 = 5
        · simp [k5]
          omega
        · by_cases k17 : o.1 = 17
          · simp [k17]
            omega
          · by_cases k18 : o.1 = 18
            · simp [k18]
            · by_cases k19 : o.1 = 19
              · simp [k19]
              · by_cases k23 : o.1 = 23
                · simp [k23]
                  omega
                · simp [k1, k5, k17, k18, k19, k23]
  · unfold lesson
    rw [if_neg hr]
    unfold one F1 F5 F17 F18 F19 F23
    simp [hr]
theorem learns_parts (code : Int) (hc : code = 3 ∨ code = 4) (os : List Op) : ∀ l, learns Pl.nm code l os = parts code l os := by
  induction os with
  | nil => exact fun l => rfl
  | cons o r ih =>
    intro l
    show learns Pl.nm code (lesson Pl.nm code l o) r = _
    rw [ih, ones_lesson code hc]
    rfl
theorem learns_again (code : Int) (hc : code = 3 ∨ code = 4) (os : List Op) (l : Lk) : learns Pl.nm code (learns Pl.nm code l os) os = learns Pl.nm code l os := by
  rw [learns_parts code hc, learns_parts code hc]
  unfold parts
  simp only [fld_again]
theorem fld_keep {α : Type} [DecidableEq α] (z : α) (f : Op → Option α) (P : α → Prop) (hf : ∀ o v, f o = some v → P v) (os : List Op) : ∀ x, P x → P (fld z f x os) := by
  induction os with
  | nil => exact fun x h => h
  | cons o r ih =>
    intro x h
    refine ih _ ?_
    show P (if x = z then x else (f o).getD x)
    split
    · exact h
    · cases e : f o with
      | none => exact h
      | some v => exact hf o v e
theorem right_length (o : Op) (h : right o = true) : (o.1 = 5 → o.2.length = 4) ∧ (o.1 = 23 → o.2.length = 2) ∧ (o.1 = 19 → o.2.length ≤ 20) := by
  refine ⟨fun k => ?_, fun k => ?_, fun k => ?_⟩ <;> simp [right, k] at h <;> omega
theorem may_learns (code : Int) (hc : code = 3 ∨ code = 4) (os : List Op) (l : Lk) (h : may l = true) : may (learns Pl.nm code l os) = true := by
  rw [learns_parts code hc]
  obtain ⟨g1, g2, g3, g4, g5, g6, g7⟩ := (may_iff l).1 h
  have su : ∀ x : Int, unit x = true → size x = true := fun x hx => by unfold size; rw [hx, Bool.or_true]
  have s0 : size 0 = true := rfl
  rw [may_iff]
  refine ⟨fld_keep 0 (F1 code) (fun x => size x = true) (fun o v e => ?_) os _ g1, fld_keep 0 (F17 code) (fun x => size x = true) (fun o v e => ?_) os _ g2, (fld_keep 0 (F5 code) (fun x => 0 ≤ x ∧ x ≤ 4294967295) (fun o v e => ?_) os _ ⟨g3, g4⟩).1, (fld_keep 0 (F5 code) (fun x => 0 ≤ x ∧ x ≤ 4294967295) (fun o v e => ?_) os _ ⟨g3, g4⟩).2,
    fld_keep [] (F19 code) (fun x => x.length ≤ 20) (fun o v e => ?_) os _ g5, (fld_keep 0 (F23 code) (fun x => 0 ≤ x ∧ x ≤ 65535) (fun o v e => ?_) os _ ⟨g6, g7⟩).1, (fld_keep 0 (F23 code) (fun x => 0 ≤ x ∧ x ≤ 65535) (fun o v e => ?_) os _ ⟨g6, g7⟩).2⟩
  · unfold F1 at e
    split at e
    · split at e
      · cases e; exact s0
      · split at e
        · cases e; exact su _ (by assumption)
        · cases e
    · cases e
  · unfold F17 at e
    split at e
    · split at e
      · cases e; exact s0
      · split at e
        · cases e; exact su _ (by assumption)
        · cases e
    · cases e
  all_goals
    first
    | (unfold F5 at e
       split at e
       · rename_i hk
         have hl := (right_length o hk.1).1 hk.2
         have hb := Pl.nm_bounds o.2 (by omega)
         rw [hl] at hb
         split at e
         · cases e; omega
         · split at e
           · cases e; omega
           · cases e
       · cases e)
    | (unfold F23 at e
       split at e
       · rename_i hk
         have hl := (right_length o hk.1).2.1 hk.2
         have hb := Pl.nm_bounds o.2 (by omega)
         rw [hl] at hb
         split at e
         · cases e; omega
         · cases e; omega
       · cases e)
    | (unfold F19 at e
       split at e
       · rename_i hk
         have hl := (right_length o hk.1).2.2 hk.2
         split at e
         · cases e; simp
         · cases e; exact hl
       · cases e)
end Go.Proofs.YteabkmelnoefiaaGreatDoor.Pol
namespace Go.Proofs.YteabkmelnoefiaaGreatDoor.Ng
open Go.Proofs.YteabkmelnoefiaaGreatDoor
abbrev Pk := Ctl.Pk
structure Side where
  st : Int
  own : Pol.Lk
  other : Pol.Lk
  left : Int
  tries : Int
  id : Int
  sent : Int
  asked : List Pol.Op
deriving DecidableEq
def fresh (l : Pol.Lk) (tries : Int) : Side := ⟨0, l, Pol.zero, 0, tries, 0, -1, []⟩
def fine (l : Pol.Lk) (tries : Int) : Bool := Pol.may l && decide (1 ≤ tries) && decide (tries ≤ 10)
def less (n : Int) : Int := if 0 ≤ n - 1 then n - 1 else 0
/-- One action of the automaton: what the side becomes, what it sends. -/
def act (event : Int) (p : Pk) (verdict : Int) (os : List Pol.Op) (g : Side) (a : Int) : Side × List Pk :=
  let id := (g.id + 1) % 256
  if a = 5 then ({ g with left := g.tries }, [])
  else if a = 6 then ({ g with left := 0 }, [])
  else if a = 7 then ({ g with left := less g.left, asked := (Pol.ask g.own).1, id := id, sent := id }, [(1, id, (Pol.ask g.own).1, [])])
  else if a = 8 then ({ g with other := (Pol.taken Pl.nm p.2.2.1).1 }, [(2, p.2.1, p.2.2.1, [])])
  else if a = 9 then (g, [(if verdict = 2 then 4 else 3, p.2.1, os, [])])
  else if a = 10 then ({ g with left := less g.left, id := id }, [(5, id, [], [])])
  else if a = 11 then (g, [(6, if event = 10 then p.2.1 else 0, [], [])])
  else if a = 12 then ({ g with id := id }, [(7, id, [], (Ctl.put p).take 64)])
  else if a = 13 then (g, if p.1 = 9 then [(10, p.2.1, [], p.2.2.2)] else [])
  else (g, [])
def acts (event : Int) (p : Pk) (verdict : Int) (os : List Pol.Op) : Side → List Int → Side × List Pk
  | g, [] => (g, [])
  | g, a :: r => ((acts event p verdict os (act event p verdict os g a).1 r).1, (act event p verdict os g a).2 ++ (acts event p verdict os (act event p verdict os g a).1 r).2)
def run (g : Side) (event : Int) (p : Pk) (verdict : Int) (os : List Pol.Op) : Side × List Pk × Int :=
  if (Fsm.step g.st event).2.2 = 0 then ({ (acts event p verdict os g (Fsm.step g.st event).2.1).1 with st := (Fsm.step g.st event).1 }, (acts event p verdict os g (Fsm.step g.st event).2.1).2, 0) else (g, [], 1501)
def isEvent (e : Int) : Bool := decide (0 ≤ e) && decide (e ≤ 4)
def step (g : Side) (e : Int) : Side × List Pk × Int :=
  if isEvent e then run g (if e = 4 ∧ g.left = 0 then 5 else e) Ctl.zero 0 [] else (g, [], 1500)
def take (g : Side) (p : Pk) : Side × List Pk × Int :=
  if Ctl.code p ≠ 0 then (g, [], 1500)
  else if g.st = 0 ∨ g.st = 1 then (g, [], 1501)
  else if p.1 = 1 then (if (Pol.judge Pl.nm g.own p.2.2.1).1 = 0 then run g 6 p 0 (Pol.judge Pl.nm g.own p.2.2.1).2.1 else run g 7 p (Pol.judge Pl.nm g.own p.2.2.1).1 (Pol.judge Pl.nm g.own p.2.2.1).2.1)
  else if p.1 = 2 then (if p.2.1 = g.sent ∧ p.2.2.1 = g.asked then run g 8 p 0 [] else (g, [], 0))
  else if p.1 = 3 ∨ p.1 = 4 then (if p.2.1 = g.sent then run { g with own := (Pol.learn Pl.nm g.own p.1 p.2.2.1).1 } 9 p 0 [] else (g, [], 0))
  else if p.1 = 5 then run g 10 p 0 []
  else if p.1 = 6 then run g 11 p 0 []
  else if p.1 = 7 ∨ p.1 = 8 then run g 13 p 0 []
  else if p.1 = 9 ∨ p.1 = 10 ∨ p.1 = 11 then run g 15 p 0 []
  else run g 12 p 0 []
end Go.Proofs.YteabkmelnoefiaaGreatDoor.Ng
namespace Go.Proofs.YteabkmelnoefiaaGreatDoor.Pol
def rank (b a : Lk) : Nat := (if a.short = true ∧ b.short = false then 1 else 0) + (if a.magic ≠ 0 ∧ a.magic = b.magic then 1 else 0)
theorem rank_le (b a : Lk) : rank b a ≤ 2 := by
  unfold rank
  split <;> split <;> omega
theorem learn_learns (code : Int) (hc : code = 3 ∨ code = 4) (l : Lk) (os : List Op) (h : may l = true) : learn Pl.nm l code os = (learns Pl.nm code l os, 0) := by
  unfold learn
  rw [h]
  rcases hc with rfl | rfl <;> rfl
theorem round (a b : Lk) (ha : may a = true) (hb : may b = true) : judge Pl.nm b (asks a) = (0, asks a, 0) ∨
    ∃ vd code rs a', ((vd = 2 ∧ code = 4) ∨ (vd = 1 ∧ code = 3)) ∧ judge Pl.nm b (asks a) = (vd, rs, 0) ∧ learn Pl.nm a code rs = (a', 0) ∧ a' ≠ a ∧ may a' = true ∧ rank b a' + 1 = rank b a ∧ rs.length = 1 ∧ ∀ o ∈ rs, o.2.length ≤ 4 := by
  have e := judge_asks a b ha hb
  obtain ⟨_, _, b3, b4, _, _, _⟩ := (may_iff b).1 hb
  by_cases hs : a.short = true ∧ b.short = false
  · rw [if_pos hs] at e
    have hl := learn_short a ha
    refine .inr ⟨2, 4, _, { a with short := false }, .inl ⟨rfl, rfl⟩, e, hl, fun h => ?_, ?_, ?_, rfl, by simp⟩
    · have := congrArg Lk.short h
      rw [hs.1] at this
      cases this
    · have h2 := learn_learns 4 (.inr rfl) a [(18, [])] ha
      rw [hl] at h2
      have h3 := congrArg Prod.fst h2
      simp only at h3
      rw [h3]
      exact may_learns 4 (.inr rfl) _ a ha
    · unfold rank
      simp [hs.1, hs.2]
      omega
  · rw [if_neg hs] at e
    by_cases hm : a.magic ≠ 0 ∧ a.magic = b.magic
    · rw [if_pos hm] at e
      obtain ⟨t1, t2, t3⟩ := turn_bounds b.magic b3 b4
      have hl := learn_magic a ha hm.1 (turn b.magic) t1 t2
      refine .inr ⟨1, 3, _, { a with magic := turn b.magic }, .inr ⟨rfl, rfl⟩, e, hl, fun h => ?_, ?_, ?_, rfl, by simp [be_length]⟩
      · have := congrArg Lk.magic h
        simp only at this
        exact t3 (this.trans hm.2)
      · have h2 := learn_learns 3 (.inl rfl) a [(5, be 4 (turn b.magic).toNat)] ha
        rw [hl] at h2
        have h3 := congrArg Prod.fst h2
        simp only at h3
        rw [h3]
        exact may_learns 3 (.inl rfl) _ a ha
      · unfold rank
        rw [if_neg hs, if_pos hm]
        simp only
        rw [if_neg (fun h => t3 h.2)]
    · rw [if_neg hm] at e
      exact .inl e
end Go.Proofs.YteabkmelnoefiaaGreatDoor.Pol
namespace Go.Proofs.YteabkmelnoefiaaGreatDoor.Ng
open Go.Proofs.YteabkmelnoefiaaGreatDoor
structure Mem where
  st : Int
  tries : Int
  left : Int
  own : Pol.Lk
  other : Pol.Lk
  id : Int
  sent : Bool
  sid : Int
  link : Pol.Lk
deriving DecidableEq
def Mem.side (m : Mem) : Side := ⟨m.st, m.own, m.other, m.left, m.tries, m.id, if m.sent then m.sid else -1, if m.sent then (Pol.ask m.link).1 else []⟩
structure Mem.Fit (m : Mem) : Prop where
  st : 0 ≤ m.st ∧ m.st ≤ 9
  tries : 1 ≤ m.tries ∧ m.tries ≤ 10
  left : 0 ≤ m.left ∧ m.left ≤ 10
  id : 0 ≤ m.id ∧ m.id ≤ 255
  may : Pol.may m.own = true
  oth : m.other.disc.length ≤ 20
def born (l : Pol.Lk) (tries : Int) : Mem := ⟨0, tries, 0, l, Pol.zero, 0, false, 0, Pol.zero⟩
theorem born_side (l : Pol.Lk) (tries : Int) : (born l tries).side = fresh l tries := rfl
theorem born_fit (l : Pol.Lk) (tries : Int) (h : fine l tries = true) : (born l tries).Fit := by
  unfold fine at h
  simp only [Bool.and_eq_true, decide_eq_true_eq] at h
  exact ⟨⟨Int.le_refl 0, by show (0 : Int) ≤ 9; decide⟩, ⟨h.1.2, h.2⟩, ⟨Int.le_refl 0, by show (0 : Int) ≤ 10; decide⟩, ⟨Int.le_refl 0, by show (0 : Int) ≤ 255; decide⟩, h.1.1, Nat.zero_le _⟩
def Mem.nxt (m : Mem) : Int := (m.id + 1) % 256
def numbered (m : Mem) : List Pk → Mem × List Pk
  | [] => (m, [])
  | p :: r => ((numbered { m with id := m.nxt } r).1, (p.1, m.nxt, p.2.2) :: (numbered { m with id := m.nxt } r).2)
def granted (o : Pol.Lk) (qs : List Pk) : Pol.Lk := qs.foldl (fun _ p => (Pol.taken Pl.nm p.2.2.1).1) o
def asked (m : Mem) : Mem := { m with left := less m.left, id := m.nxt, sent := true, sid := m.nxt, link := m.own }
/-- One action: the side, the answers at hand, what is sent. -/
def mact (ev : Int) (m : Mem) (qs : List Pk) (a : Int) : Mem × List Pk × List Pk :=
  if a = 5 then ({ m with left := m.tries }, qs, [])
  else if a = 6 then ({ m with left := 0 }, qs, [])
  else if a = 7 then (asked m, qs, [(1, m.nxt, (Pol.ask m.own).1, [])])
  else if a = 8 then ({ m with other := granted m.other qs }, qs, qs)
  else if a = 9 then (m, qs, qs)
  else if a = 10 then ({ m with left := less m.left, id := m.nxt }, qs, [(5, m.nxt, [], [])])
  else if a = 11 then (m, qs, if ev = 10 then qs else [(6, 0, [], [])])
  else if a = 12 then ((numbered m qs).1, (numbered m qs).2, (numbered m qs).2)
  else if a = 13 then (m, qs, qs)
  else (m, qs, [])
abbrev St := Mem × List Pk × List Pk
def stp (ev : Int) (s : St) (a : Int) : St := ((mact ev s.1 s.2.1 a).1, (mact ev s.1 s.2.1 a).2.1, s.2.2 ++ (mact ev s.1 s.2.1 a).2.2)
def macts (ev : Int) (m : Mem) (qs : List Pk) (xs : List Int) : St := xs.foldl (stp ev) (m, qs, [])
theorem macts_snoc (ev : Int) (m : Mem) (qs : List Pk) (xs : List Int) (k : Nat) (h : k < xs.length) : macts ev m qs (xs.take (k + 1)) = stp ev (macts ev m qs (xs.take k)) xs[k] := by
  unfold macts
  rw [List.take_succ_eq_append_getElem h, List.foldl_append]
  rfl
def mrun (m : Mem) (ev : Int) (qs : List Pk) : Mem × List Pk × Int :=
  if (Fsm.step m.st ev).2.2 = 0 then ((macts ev { m with st := (Fsm.step m.st ev).1 } qs (Fsm.step m.st ev).2.1).1, (macts ev { m with st := (Fsm.step m.st ev).1 } qs (Fsm.step m.st ev).2.1).2.2, 0) else (m, [], 1501)
def mdo (m : Mem) (e : Int) : Mem × List Pk × Int := if isEvent e then mrun m (if e = 4 ∧ m.left = 0 then 5 else e) [] else (m, [], 1500)
def verdict (v : Int) : Int := if v = 0 then 2 else if v = 1 then 3 else 4
def mtake (m : Mem) (p : Pk) : Mem × List Pk × Int :=
  if Ctl.code p ≠ 0 then (m, [], 1500)
  else if m.st = 0 ∨ m.st = 1 then (m, [], 1501)
  else if p.1 = 1 then mrun m (if (Pol.judge Pl.nm m.own p.2.2.1).1 = 0 then 6 else 7) [(verdict (Pol.judge Pl.nm m.own p.2.2.1).1, p.2.1, (Pol.judge Pl.nm m.own p.2.2.1).2.1, [])]
  else if p.1 = 2 then (if m.sent = true ∧ m.sid = p.2.1 ∧ (Pol.ask m.link).1 = p.2.2.1 then mrun m 8 [] else (m, [], 0))
  else if p.1 = 3 ∨ p.1 = 4 then (if m.sent = true ∧ m.sid = p.2.1 then mrun { m with own := (Pol.learn Pl.nm m.own p.1 p.2.2.1).1 } 9 [] else (m, [], 0))
  else if p.1 = 5 then mrun m 10 [(6, p.2.1, [], [])]
  else if p.1 = 6 then mrun m 11 []
  else if p.1 = 7 ∨ p.1 = 8 then mrun m 13 []
  else if p.1 = 9 then mrun m 15 [(10, p.2.1, [], p.2.2.2)]
  else if p.1 = 10 ∨ p.1 = 11 then mrun m 15 []
  else mrun m 12 [(7, 0, [], (Ctl.put p).take 64)]
/-- What the automaton's table holds, as the walks want it. -/
def tells (st ev : Nat) : Bool := (Fsm.step st ev).2.1.all fun a => decide (0 ≤ a) && decide (a ≤ 13) && (a != 8 || ev == 6) && (a != 9 || ev == 7) && (a != 12 || ev == 12) && (a != 13 || ev == 15)
def ends (st ev : Nat) : Bool := decide (0 ≤ (Fsm.step st ev).1) && decide ((Fsm.step st ev).1 ≤ 9) && decide ((Fsm.step st ev).2.1.length ≤ 4)
theorem table_all : (List.range 10).all (fun st => (List.range 16).all fun ev => tells st ev && ends st ev) = true := by decide +kernel
theorem table (st ev : Int) (h1 : 0 ≤ st ∧ st ≤ 9) (h2 : 0 ≤ ev ∧ ev ≤ 15) : 0 ≤ (Fsm.step st ev).1 ∧ (Fsm.step st ev).1 ≤ 9 ∧ (Fsm.step st ev).2.1.length ≤ 4 ∧
    ∀ a ∈ (Fsm.step st ev).2.1, 0 ≤ a ∧ a ≤ 13 ∧ (a = 8 → ev = 6) ∧ (a = 9 → ev = 7) ∧ (a = 12 → ev = 12) ∧ (a = 13 → ev = 15) := by
  obtain ⟨s, rfl⟩ : ∃ s : Nat, st = s := ⟨st.toNat, by omega⟩
  obtain ⟨v, rfl⟩ : ∃ v : Nat, ev = v := ⟨ev.toNat, by omega⟩
  have h := List.all_eq_true.1 (List.all_eq_true.1 table_all s (List.mem_range.2 (by omega))) v (List.mem_range.2 (by omega))
  rw [Bool.and_eq_true] at h
  obtain ⟨ht, he⟩ := h
  unfold ends at he
  simp only [Bool.and_eq_true, decide_eq_true_eq] at he
  refine ⟨he.1.1, he.1.2, he.2, fun a ha => ?_⟩
  have := List.all_eq_true.1 ht a ha
  simp only [Bool.and_eq_true, Bool.or_eq_true, decide_eq_true_eq, bne_iff_ne, beq_iff_eq] at this
  obtain ⟨⟨⟨⟨⟨a1, a2⟩, a3⟩, a4⟩, a5⟩, a6⟩ := this
  exact ⟨a1, a2, fun e => by have := a3.resolve_left (fun x => x e); omega, fun e => by have := a4.resolve_left (fun x => x e); omega, fun e => by have := a5.resolve_left (fun x => x e); omega, fun e => by have := a6.resolve_left (fun x => x e); omega⟩
/-- At most one packet of the other side's, and one is sent at a time. -/
theorem numbered_le (m : Mem) (qs : List Pk) : (numbered m qs).2.length = qs.length := by
  induction qs generalizing m with
  | nil => rfl
  | cons p r ih => simp [numbered, ih]
theorem mact_few (ev : Int) (m : Mem) (qs : List Pk) (a : Int) (h : qs.length ≤ 1) : (mact ev m qs a).2.1.length ≤ 1 ∧ (mact ev m qs a).2.2.length ≤ 1 := by
  have hn := numbered_le m qs
  unfold mact
  repeat' split
  all_goals simp
  all_goals omega
theorem less_in (n : Int) (h : 0 ≤ n ∧ n ≤ 10) : 0 ≤ less n ∧ less n ≤ 10 := by
  unfold less
  split <;> omega
theorem nxt_in (m : Mem) : 0 ≤ m.nxt ∧ m.nxt ≤ 255 := by unfold Mem.nxt; omega
theorem numbered_fit (m : Mem) (qs : List Pk) (h : m.Fit) : (numbered m qs).1.Fit := by
  induction qs generalizing m with
  | nil => exact h
  | cons p r ih => exact ih _ ⟨h.st, h.tries, h.left, nxt_in m, h.may, h.oth⟩
theorem taken_disc (os : List Pol.Op) : (Pol.taken Pl.nm os).1.disc.length ≤ 20 := by
  unfold Pol.taken
  split
  · next h =>
    rw [Bool.and_eq_true] at h
    exact ((Pol.may_iff _).1 h.2).2.2.2.2.1
  · exact Nat.zero_le _
theorem granted_disc (qs : List Pk) : ∀ o : Pol.Lk, o.disc.length ≤ 20 → (granted o qs).disc.length ≤ 20 := by
  induction qs with
  | nil => intro o h; exact h
  | cons p r ih => intro o _; exact ih _ (taken_disc _)
theorem mact_fit (ev : Int) (m : Mem) (qs : List Pk) (a : Int) (h : m.Fit) : (mact ev m qs a).1.Fit := by
  have h1 := less_in m.left h.left
  have h2 := nxt_in m
  have h3 := numbered_fit m qs h
  obtain ⟨g1, g2, g3, g4, g5, g6⟩ := h
  have h4 := granted_disc qs m.other g6
  unfold mact
  repeat' split
  · exact ⟨g1, g2, ⟨by show 0 ≤ m.tries; omega, g2.2⟩, g4, g5, g6⟩
  · exact ⟨g1, g2, ⟨Int.le_refl _, by show (0 : Int) ≤ 10; decide⟩, g4, g5, g6⟩
  · exact ⟨g1, g2, h1, h2, g5, g6⟩
  · exact ⟨g1, g2, g3, g4, g5, h4⟩
  · exact ⟨g1, g2, g3, g4, g5, g6⟩
  · exact ⟨g1, g2, h1, h2, g5, g6⟩
  · exact ⟨g1, g2, g3, g4, g5, g6⟩
  · exact ⟨g1, g2, g3, g4, g5, g6⟩
  · exact h3
  · exact ⟨g1, g2, g3, g4, g5, g6⟩
  · exact ⟨g1, g2, g3, g4, g5, g6⟩
theorem macts_fit (ev : Int) (xs : List Int) : ∀ (s : St), s.1.Fit → (xs.foldl (stp ev) s).1.Fit := by
  induction xs with
  | nil => intro s h; exact h
  | cons a r ih => intro s h; exact ih _ (mact_fit ev s.1 s.2.1 a h)
theorem macts_st (ev : Int) (xs : List Int) : ∀ (s : St), (xs.foldl (stp ev) s).1.st = s.1.st := by
  have hn : ∀ (m : Mem) (qs : List Pk), (numbered m qs).1.st = m.st := by
    intro m qs
    induction qs generalizing m with
    | nil => rfl
    | cons p r ih => exact ih _
  induction xs with
  | nil => intro s; rfl
  | cons a r ih =>
    intro s
    refine (ih _).trans ?_
    show (mact ev s.1 s.2.1 a).1.st = _
    unfold mact
    repeat' split
    all_goals first | rfl | exact hn _ _
theorem mrun_fit (m : Mem) (ev : Int) (qs : List Pk) (h : m.Fit) (he : 0 ≤ ev ∧ ev ≤ 15) : (mrun m ev qs).1.Fit := by
  unfold mrun
  split
  · obtain ⟨t1, t2, _⟩ := table m.st ev h.st he
    exact macts_fit ev _ _ ⟨⟨t1, t2⟩, h.tries, h.left, h.id, h.may, h.oth⟩
  · exact h
/-- Act by act the program's side is the document's. -/
theorem acts_eq (ev : Int) (p : Pk) (v : Int) (os : List Pol.Op) (Q : List Pk → Prop) (xs : List Int)
    (h : ∀ m qs a, a ∈ xs → Q qs → Q (mact ev m qs a).2.1 ∧ (mact ev m qs a).1.side = (act ev p v os m.side a).1 ∧ (mact ev m qs a).2.2 = (act ev p v os m.side a).2) :
    ∀ m qs out, Q qs → (xs.foldl (stp ev) (m, qs, out)).1.side = (acts ev p v os m.side xs).1 ∧ (xs.foldl (stp ev) (m, qs, out)).2.2 = out ++ (acts ev p v os m.side xs).2 := by
  induction xs with
  | nil => intro m qs out _; exact ⟨rfl, (List.append_nil out).symm⟩
  | cons a r ih =>
    intro m qs out hq
    obtain ⟨h1, h2, h3⟩ := h m qs a (by simp) hq
    obtain ⟨i1, i2⟩ := ih (fun m qs b hb => h m qs b (by simp [hb])) (mact ev m qs a).1 (mact ev m qs a).2.1 (out ++ (mact ev m qs a).2.2) h1
    have e : List.foldl (stp ev) (m, qs, out) (a :: r) = List.foldl (stp ev) ((mact ev m qs a).1, (mact ev m qs a).2.1, out ++ (mact ev m qs a).2.2) r := rfl
    rw [e, i1, i2]
    show _ = (acts ev p v os (act ev p v os m.side a).1 r).1 ∧ _ = out ++ ((act ev p v os m.side a).2 ++ (acts ev p v os (act ev p v os m.side a).1 r).2)
    rw [h2, h3, List.append_assoc]
    exact ⟨rfl, rfl⟩
/-- What the answers must be that an event brings. -/
def Fits (ev : Int) (p : Pk) (v : Int) (os : List Pol.Op) (qs : List Pk) : Prop :=
  (ev = 6 → qs = [(2, p.2.1, p.2.2.1, [])]) ∧ (ev = 7 → qs = [(if v = 2 then 4 else 3, p.2.1, os, [])]) ∧ (ev = 10 → qs = [(6, p.2.1, [], [])]) ∧ (ev = 12 → ∃ x, qs = [(7, x, [], (Ctl.put p).take 64)]) ∧ (ev = 15 → qs = if p.1 = 9 then [(10, p.2.1, [], p.2.2.2)] else [])
theorem act_eq (ev : Int) (p : Pk) (v : Int) (os : List Pol.Op) (m : Mem) (qs : List Pk) (a : Int) (ha : (a = 8 → ev = 6) ∧ (a = 9 → ev = 7) ∧ (a = 12 → ev = 12) ∧ (a = 13 → ev = 15)) (hq : Fits ev p v os qs) :
    Fits ev p v os (mact ev m qs a).2.1 ∧ (mact ev m qs a).1.side = (act ev p v os m.side a).1 ∧ (mact ev m qs a).2.2 = (act ev p v os m.side a).2 := by
  obtain ⟨q6, q7, q10, q12, q15⟩ := hq
  obtain ⟨a8, a9, a12, a13⟩ := ha
  by_cases h5 : a = 5
  · subst h5; exact ⟨⟨q6, q7, q10, q12, q15⟩, rfl, rfl⟩
  by_cases h6 : a = 6
  · subst h6; exact ⟨⟨q6, q7, q10, q12, q15⟩, rfl, rfl⟩
  by_cases h7 : a = 7
  · subst h7; exact ⟨⟨q6, q7, q10, q12, q15⟩, rfl, rfl⟩
  by_cases h8 : a = 8
  · subst h8
    refine ⟨⟨q6, q7, q10, q12, q15⟩, ?_, ?_⟩
    · have e := q6 (a8 rfl)
      subst e
      rfl
    · exact q6 (a8 rfl)
  by_cases h9 : a = 9
  · subst h9; exact ⟨⟨q6, q7, q10, q12, q15⟩, rfl, q7 (a9 rfl)⟩
  by_cases h10 : a = 10
  · subst h10; exact ⟨⟨q6, q7, q10, q12, q15⟩, rfl, rfl⟩
  by_cases h11 : a = 11
  · subst h11
    refine ⟨⟨q6, q7, q10, q12, q15⟩, rfl, ?_⟩
    show (if ev = 10 then qs else [(6, 0, [], [])]) = [(6, if ev = 10 then p.2.1 else 0, [], [])]
    by_cases he : ev = 10
    · rw [if_pos he, if_pos he, q10 he]
    · rw [if_neg he, if_neg he]
  by_cases h12 : a = 12
  · subst h12
    have he := a12 rfl
    obtain ⟨x, rfl⟩ := q12 he
    refine ⟨⟨fun h => absurd (he.symm.trans h) (by decide), fun h => absurd (he.symm.trans h) (by decide), fun h => absurd (he.symm.trans h) (by decide), fun _ => ⟨m.nxt, rfl⟩, fun h => absurd (he.symm.trans h) (by decide)⟩, rfl, rfl⟩
  by_cases h13 : a = 13
  · subst h13; exact ⟨⟨q6, q7, q10, q12, q15⟩, rfl, q15 (a13 rfl)⟩
  · have e1 : mact ev m qs a = (m, qs, []) := by unfold mact; rw [if_neg h5, if_neg h6, if_neg h7, if_neg h8, if_neg h9, if_neg h10, if_neg h11, if_neg h12, if_neg h13]
    have e2 : act ev p v os m.side a = (m.side, []) := by unfold act; simp only [if_neg h5, if_neg h6, if_neg h7, if_neg h8, if_neg h9, if_neg h10, if_neg h11, if_neg h12, if_neg h13]
    rw [e1, e2]
    exact ⟨⟨q6, q7, q10, q12, q15⟩, rfl, rfl⟩
/-- The acts don't look at the state. -/
theorem acts_st (ev : Int) (p : Pk) (v : Int) (os : List Pol.Op) (xs : List Int) : ∀ (g : Side) (s : Int), (acts ev p v os { g with st := s } xs).1 = { (acts ev p v os g xs).1 with st := s } ∧ (acts ev p v os { g with st := s } xs).2 = (acts ev p v os g xs).2 := by
  have h1 : ∀ (g : Side) (s a : Int), act ev p v os { g with st := s } a = ({ (act ev p v os g a).1 with st := s }, (act ev p v os g a).2) := by
    intro g s a
    by_cases h5 : a = 5
    · subst h5; rfl
    by_cases h6 : a = 6
    · subst h6; rfl
    by_cases h7 : a = 7
    · subst h7; rfl
    by_cases h8 : a = 8
    · subst h8; rfl
    by_cases h9 : a = 9
    · subst h9; rfl
    by_cases h10 : a = 10
    · subst h10; rfl
    by_cases h11 : a = 11
    · subst h11; rfl
    by_cases h12 : a = 12
    · subst h12; rfl
    by_cases h13 : a = 13
    · subst h13; rfl
    unfold act
    simp only [if_neg h5, if_neg h6, if_neg h7, if_neg h8, if_neg h9, if_neg h10, if_neg h11, if_neg h12, if_neg h13]
  induction xs with
  | nil => intro g s; exact ⟨rfl, rfl⟩
  | cons a r ih =>
    intro g s
    obtain ⟨i1, i2⟩ := ih (act ev p v os g a).1 s
    unfold acts
    rw [h1]
    exact ⟨i1, by rw [i2]⟩
theorem run_eq (m : Mem) (ev : Int) (p : Pk) (v : Int) (os : List Pol.Op) (qs : List Pk) (h : m.Fit) (he : 0 ≤ ev ∧ ev ≤ 15) (hq : Fits ev p v os qs) :
    (mrun m ev qs).1.side = (run m.side ev p v os).1 ∧ (mrun m ev qs).2 = (run m.side ev p v os).2 := by
  obtain ⟨_, _, _, ht⟩ := table m.st ev h.st he
  by_cases h0 : (Fsm.step m.st ev).2.2 = 0
  · have A := acts_eq ev p v os (Fits ev p v os) (Fsm.step m.st ev).2.1 (fun m qs a ha hq => act_eq ev p v os m qs a (ht a ha).2.2 hq)
    obtain ⟨j1, j2⟩ := A { m with st := (Fsm.step m.st ev).1 } qs [] hq
    have K := acts_st ev p v os (Fsm.step m.st ev).2.1 m.side (Fsm.step m.st ev).1
    have e1 : mrun m ev qs = ((macts ev { m with st := (Fsm.step m.st ev).1 } qs (Fsm.step m.st ev).2.1).1, (macts ev { m with st := (Fsm.step m.st ev).1 } qs (Fsm.step m.st ev).2.1).2.2, 0) := if_pos h0
    have e2 : run m.side ev p v os = ({ (acts ev p v os m.side (Fsm.step m.st ev).2.1).1 with st := (Fsm.step m.st ev).1 }, (acts ev p v os m.side (Fsm.step m.st ev).2.1).2, 0) := if_pos h0
    rw [e1, e2]
    refine ⟨j1.trans K.1, ?_⟩
    have e3 : (macts ev { m with st := (Fsm.step m.st ev).1 } qs (Fsm.step m.st ev).2.1).2.2 = (acts ev p v os m.side (Fsm.step m.st ev).2.1).2 := j2.trans K.2
    show ((macts ev { m with st := (Fsm.step m.st ev).1 } qs (Fsm.step m.st ev).2.1).2.2, (0 : Int)) = _
    rw [e3]
  · have e1 : mrun m ev qs = (m, [], 1501) := if_neg h0
    have e2 : run m.side ev p v os = (m.side, [], 1501) := if_neg h0
    rw [e1, e2]
    exact ⟨rfl, rfl⟩
theorem mdo_eq (m : Mem) (e : Int) (h : m.Fit) : (mdo m e).1.side = (step m.side e).1 ∧ (mdo m e).2 = (step m.side e).2 := by
  unfold mdo step
  by_cases he : isEvent e = true
  · rw [if_pos he, if_pos he]
    have hb : 0 ≤ e ∧ e ≤ 4 := by
      unfold isEvent at he
      simpa using he
    have hl : m.side.left = m.left := rfl
    rw [hl]
    have hin : 0 ≤ (if e = 4 ∧ m.left = 0 then 5 else e) ∧ (if e = 4 ∧ m.left = 0 then 5 else e) ≤ 5 := by split <;> omega
    exact run_eq m _ Ctl.zero 0 [] [] h ⟨hin.1, by omega⟩ ⟨fun x => by omega, fun x => by omega, fun x => by omega, fun x => by omega, fun x => by omega⟩
  · rw [if_neg he, if_neg he]
    exact ⟨rfl, rfl⟩
theorem mdo_fit (m : Mem) (e : Int) (h : m.Fit) : (mdo m e).1.Fit := by
  unfold mdo
  by_cases he : isEvent e = true
  · rw [if_pos he]
    have hb : 0 ≤ e ∧ e ≤ 4 := by
      unfold isEvent at he
      simpa using he
    have hin : 0 ≤ (if e = 4 ∧ m.left = 0 then 5 else e) ∧ (if e = 4 ∧ m.left = 0 then 5 else e) ≤ 15 := by split <;> omega
    exact mrun_fit m _ [] h hin
  · rw [if_neg he]; exact h
theorem judge_cases (own : Pol.Lk) (os : List Pol.Op) (hm : Pol.may own = true) (hf : Pol.fits os = true) :
    ((Pol.judge Pl.nm own os).1 = 0 ∧ (Pol.judge Pl.nm own os).2.1 = os) ∨ (Pol.judge Pl.nm own os).1 = 1 ∨ (Pol.judge Pl.nm own os).1 = 2 := by
  unfold Pol.judge
  rw [if_pos (by rw [hm, hf]; rfl)]
  split
  · exact .inr (.inr rfl)
  · split
    · exact .inr (.inl rfl)
    · exact .inl ⟨rfl, rfl⟩
/-- What layer 5 takes can be judged. -/
theorem fits_code (p : Pk) (h : Ctl.code p = 0) : Pol.fits p.2.2.1 = true ∧ 0 ≤ p.2.1 := by
  obtain ⟨c, i, os, d⟩ := p
  rcases Ctl.code_ways c i os d with ⟨_, e⟩ | ⟨_, _, e⟩ | ⟨_, _, _, e⟩ | ⟨_, _, _, _, e⟩ | ⟨_, _, _, _, _, e⟩ | ⟨h1, h2, h3, h4, h5, _⟩
  · omega
  · omega
  · omega
  · omega
  · omega
  · simp only [Ctl.byte, Bool.and_eq_true, decide_eq_true_eq] at h2
    rcases Opt.code_ways os with ⟨_, e⟩ | ⟨_, _, e⟩ | ⟨k1, k2, _⟩
    · omega
    · omega
    · obtain ⟨k3, _⟩ := Opt.fits_short os k2
      refine ⟨List.all_eq_true.2 fun o ho => ?_, h2.1⟩
      have a1 := List.all_eq_true.1 k1 o ho
      have a2 := List.all_eq_true.1 k3 o ho
      simp only [Opt.kindOk, Opt.short, Bool.and_eq_true, decide_eq_true_eq] at a1 a2
      unfold Pol.fit
      simp only [Bool.and_eq_true, decide_eq_true_eq]
      exact ⟨a1, a2⟩
theorem noFits (ev : Int) (p : Pk) (h6 : ev ≠ 6) (h7 : ev ≠ 7) (h10 : ev ≠ 10) (h12 : ev ≠ 12) (h15 : ev ≠ 15) : Fits ev p 0 [] [] :=
  ⟨fun e => absurd e h6, fun e => absurd e h7, fun e => absurd e h10, fun e => absurd e h12, fun e => absurd e h15⟩
theorem mtake_eq (m : Mem) (p : Pk) (h : m.Fit) : (mtake m p).1.side = (take m.side p).1 ∧ (mtake m p).2 = (take m.side p).2 := by
  unfold mtake take
  by_cases hc : Ctl.code p ≠ 0
  · rw [if_pos hc, if_pos hc]; exact ⟨rfl, rfl⟩
  rw [if_neg hc, if_neg hc]
  have hc0 : Ctl.code p = 0 := by omega
  obtain ⟨hf, hi⟩ := fits_code p hc0
  have hst : m.side.st = m.st := rfl
  have hown : m.side.own = m.own := rfl
  rw [hst, hown]
  by_cases h0 : m.st = 0 ∨ m.st = 1
  · rw [if_pos h0, if_pos h0]; exact ⟨rfl, rfl⟩
  rw [if_neg h0, if_neg h0]
  by_cases h1 : p.1 = 1
  · rw [if_pos h1, if_pos h1]
    rcases judge_cases m.own p.2.2.1 h.may hf with ⟨e, e2⟩ | e | e
    · rw [e, e2, if_pos rfl, if_pos rfl]
      exact run_eq m 6 p 0 p.2.2.1 _ h (by decide) ⟨fun _ => rfl, fun e => absurd e (by decide), fun e => absurd e (by decide), fun e => absurd e (by decide), fun e => absurd e (by decide)⟩
    · rw [e, if_neg (by decide), if_neg (by decide)]
      exact run_eq m 7 p 1 _ _ h (by decide) ⟨fun e => absurd e (by decide), fun _ => rfl, fun e => absurd e (by decide), fun e => absurd e (by decide), fun e => absurd e (by decide)⟩
    · rw [e, if_neg (by decide), if_neg (by decide)]
      exact run_eq m 7 p 2 _ _ h (by decide) ⟨fun e => absurd e (by decide), fun _ => rfl, fun e => absurd e (by decide), fun e => absurd e (by decide), fun e => absurd e (by decide)⟩
  rw [if_neg h1, if_neg h1]
  have hs : m.side.sent = if m.sent then m.sid else -1 := rfl
  have ha : m.side.asked = if m.sent then (Pol.ask m.link).1 else [] := rfl
  by_cases h2 : p.1 = 2
  · rw [if_pos h2, if_pos h2, hs, ha]
    by_cases hq : m.sent = true
    rotate_left
    · rw [if_neg (fun k => hq k.1), if_neg hq, if_neg (fun k => by have := k.1; omega)]
      exact ⟨rfl, rfl⟩
    · rw [if_pos hq, if_pos hq]
      by_cases hk : m.sid = p.2.1 ∧ (Pol.ask m.link).1 = p.2.2.1
      · rw [if_pos ⟨hq, hk⟩, if_pos ⟨hk.1.symm, hk.2.symm⟩]
        exact run_eq m 8 p 0 [] [] h (by decide) (noFits 8 p (by decide) (by decide) (by decide) (by decide) (by decide))
      · rw [if_neg (fun k => hk k.2), if_neg (fun k => hk ⟨k.1.symm, k.2.symm⟩)]
        exact ⟨rfl, rfl⟩
  rw [if_neg h2, if_neg h2]
  by_cases h3 : p.1 = 3 ∨ p.1 = 4
  · rw [if_pos h3, if_pos h3]
    by_cases hq : m.sent = true
    rotate_left
    · rw [if_neg (fun k => hq k.1), if_neg (fun k => by rw [hs, if_neg hq] at k; omega)]
      exact ⟨rfl, rfl⟩
    · rw [if_pos hq] at hs
      by_cases hk : m.sid = p.2.1
      · rw [if_pos ⟨hq, hk⟩, if_pos (show p.2.1 = m.side.sent by rw [hs]; exact hk.symm)]
        have hl := Pol.learn_learns p.1 h3 m.own p.2.2.1 h.may
        have hfit : Mem.Fit { m with own := (Pol.learn Pl.nm m.own p.1 p.2.2.1).1 } := ⟨h.st, h.tries, h.left, h.id, by rw [hl]; exact Pol.may_learns p.1 h3 p.2.2.1 m.own h.may, h.oth⟩
        exact run_eq { m with own := (Pol.learn Pl.nm m.own p.1 p.2.2.1).1 } 9 p 0 [] [] hfit (by decide) (noFits 9 p (by decide) (by decide) (by decide) (by decide) (by decide))
      · rw [if_neg (fun k => hk k.2), if_neg (fun k => by rw [hs] at k; exact hk k.symm)]
        exact ⟨rfl, rfl⟩
  rw [if_neg h3, if_neg h3]
  by_cases h5 : p.1 = 5
  · rw [if_pos h5, if_pos h5]
    exact run_eq m 10 p 0 [] _ h (by decide) ⟨fun e => absurd e (by decide), fun e => absurd e (by decide), fun _ => rfl, fun e => absurd e (by decide), fun e => absurd e (by decide)⟩
  rw [if_neg h5, if_neg h5]
  by_cases h6 : p.1 = 6
  · rw [if_pos h6, if_pos h6]
    exact run_eq m 11 p 0 [] [] h (by decide) (noFits 11 p (by decide) (by decide) (by decide) (by decide) (by decide))
  rw [if_neg h6, if_neg h6]
  by_cases h7 : p.1 = 7 ∨ p.1 = 8
  · rw [if_pos h7, if_pos h7]
    exact run_eq m 13 p 0 [] [] h (by decide) (noFits 13 p (by decide) (by decide) (by decide) (by decide) (by decide))
  rw [if_neg h7, if_neg h7]
  by_cases h9 : p.1 = 9
  · rw [if_pos h9, if_pos (.inl h9)]
    exact run_eq m 15 p 0 [] _ h (by decide) ⟨fun e => absurd e (by decide), fun e => absurd e (by decide), fun e => absurd e (by decide), fun e => absurd e (by decide), fun _ => (if_pos h9).symm⟩
  rw [if_neg h9]
  by_cases h10 : p.1 = 10 ∨ p.1 = 11
  · rw [if_pos h10, if_pos (.inr h10)]
    exact run_eq m 15 p 0 [] [] h (by decide) ⟨fun e => absurd e (by decide), fun e => absurd e (by decide), fun e => absurd e (by decide), fun e => absurd e (by decide), fun _ => (if_neg h9).symm⟩
  · rw [if_neg h10, if_neg (by rintro (e | e); exact h9 e; exact h10 e)]
    exact run_eq m 12 p 0 [] _ h (by decide) ⟨fun e => absurd e (by decide), fun e => absurd e (by decide), fun e => absurd e (by decide), fun _ => ⟨0, rfl⟩, fun e => absurd e (by decide)⟩
theorem mtake_fit (m : Mem) (p : Pk) (h : m.Fit) : (mtake m p).1.Fit := by
  unfold mtake
  by_cases hc : Ctl.code p ≠ 0
  · rw [if_pos hc]; exact h
  rw [if_neg hc]
  by_cases h0 : m.st = 0 ∨ m.st = 1
  · rw [if_pos h0]; exact h
  rw [if_neg h0]
  by_cases h1 : p.1 = 1
  · rw [if_pos h1]; exact mrun_fit m _ _ h (by split <;> decide)
  rw [if_neg h1]
  by_cases h2 : p.1 = 2
  · rw [if_pos h2]
    split
    · exact mrun_fit m _ _ h (by decide)
    · exact h
  rw [if_neg h2]
  by_cases h3 : p.1 = 3 ∨ p.1 = 4
  · rw [if_pos h3]
    split
    · have hl := Pol.learn_learns p.1 h3 m.own p.2.2.1 h.may
      exact mrun_fit _ _ _ ⟨h.st, h.tries, h.left, h.id, by rw [hl]; exact Pol.may_learns p.1 h3 p.2.2.1 m.own h.may, h.oth⟩ (by decide)
    · exact h
  rw [if_neg h3]
  repeat' split
  all_goals exact mrun_fit m _ _ h (by decide)
end Go.Proofs.YteabkmelnoefiaaGreatDoor.Ng
namespace Go.Proofs.YteabkmelnoefiaaGreatDoor.Ng
open Go.Proofs.YteabkmelnoefiaaGreatDoor
def l1500 : Pol.Lk := ⟨1500, 0, 0, false, [], 0⟩
def s0 : Side := (step (fresh l1500 4) 2).1
def s1 : Side := (step s0 0).1
theorem awake1 : (step s0 0).2 = ([(1, 1, [(1, [5, 220])], [])], 0) := by kernel_rfl
theorem awake2 : (step s1 8).2 = ([], 1500) := by kernel_rfl
theorem awake3 : (step s1 0).2 = ([], 1501) := by kernel_rfl
theorem awake4 : (take s1 (1, 9, [], [])).2 = ([(2, 9, [], [])], 0) ∧ (take s1 (1, 9, [], [])).1.st = 8 ∧ (take s1 (1, 9, [], [])).1.left = 3 := ⟨by kernel_rfl, by kernel_rfl, by kernel_rfl⟩
/-- Opened and up: it has asked once. -/
def asking (l : Pol.Lk) (tries : Int) : Side := ⟨6, l, Pol.zero, less tries, tries, 1, 1, (Pol.ask l).1⟩
theorem up_asks (l : Pol.Lk) (tries : Int) : step (step (fresh l tries) 2).1 0 = (asking l tries, [(1, 1, (Pol.ask l).1, [])], 0) ∧ (step (fresh l tries) 2).2 = ([], 0) := by
  have e1 : Fsm.step 0 2 = (1, [3], 0) := by decide +kernel
  have e2 : Fsm.step 1 0 = (6, [5, 7], 0) := by decide +kernel
  have h1 : step (fresh l tries) 2 = ({ fresh l tries with st := 1 }, [], 0) := by
    unfold step
    rw [if_pos (show isEvent 2 = true from rfl), if_neg (fun h => absurd h.1 (by decide))]
    unfold run
    rw [show (fresh l tries).st = 0 from rfl, e1, if_pos rfl]
    rfl
  rw [h1]
  refine ⟨?_, rfl⟩
  unfold step
  rw [if_pos (show isEvent 0 = true from rfl), if_neg (fun h => absurd h.1 (by decide))]
  unfold run
  simp only
  rw [e2, if_pos rfl]
  rfl
/-- An answer that bears another id does nothing. -/
theorem stale (l : Pol.Lk) (tries : Int) (p : Pk) (hc : Ctl.code p = 0) (h : p.1 = 2 ∨ p.1 = 3 ∨ p.1 = 4) (hi : p.2.1 ≠ 1) : take (asking l tries) p = (asking l tries, [], 0) := by
  unfold take
  rw [if_neg (by simp [hc]), if_neg (by simp [asking])]
  have hs : (asking l tries).sent = 1 := rfl
  rw [hs]
  rcases h with h | h | h <;> simp [h, hi]
/-- Nobody answers: asked again while it may. -/
def later (l : Pol.Lk) (tries : Int) (k : Nat) : Side := ⟨6, l, Pol.zero, tries - 1 - k, tries, 1 + k, 1 + k, (Pol.ask l).1⟩
theorem asking_later (l : Pol.Lk) (tries : Int) (h : 1 ≤ tries) : asking l tries = later l tries 0 := by
  unfold asking later less
  rw [if_pos (by omega)]
  simp
theorem more (l : Pol.Lk) (tries : Int) (k : Nat) (h : (k : Int) + 1 < tries) (ht : tries ≤ 10) : step (later l tries k) 4 = (later l tries (k + 1), [(1, 2 + (k : Int), (Pol.ask l).1, [])], 0) := by
  have e : Fsm.step 6 4 = (6, [7], 0) := by decide +kernel
  unfold step
  rw [if_pos (show isEvent 4 = true from rfl), if_neg (by simp [later]; omega)]
  unfold run
  rw [show (later l tries k).st = 6 from rfl, e, if_pos rfl]
  have e1 : (1 + (k : Int) + 1) % 256 = 2 + (k : Int) := by omega
  have e2 : less (tries - 1 - (k : Int)) = tries - 1 - ((k + 1 : Nat) : Int) := by
    unfold less
    rw [if_pos (by omega)]
    omega
  simp only [acts, act, later, e1, e2]
  simp
  omega
theorem stops (l : Pol.Lk) (tries : Int) (k : Nat) (h : (k : Int) + 1 = tries) : (step (later l tries k) 4).1.st = 3 ∧ (step (later l tries k) 4).2 = ([], 0) := by
  have e : Fsm.step 6 5 = (3, [4], 0) := by decide +kernel
  unfold step
  rw [if_pos (show isEvent 4 = true from rfl), if_pos (by simp [later]; omega)]
  unfold run
  rw [show (later l tries k).st = 6 from rfl, e, if_pos rfl]
  exact ⟨rfl, rfl⟩
end Go.Proofs.YteabkmelnoefiaaGreatDoor.Ng
