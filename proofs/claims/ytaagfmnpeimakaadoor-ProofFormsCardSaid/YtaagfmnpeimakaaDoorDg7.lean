/-
  Contract of the program's digest: Chap (Of: Dg7f).
-/
import Derived.Test.YtaagfmnpeimakaaDoorDh6
import Derived.Test.YtaagfmnpeimakaaDoorDg5
namespace Go.Proofs.YtaagfmnpeimakaaDoor.Dg
open Go.RowKit
set_option maxRecDepth 100000
abbrev Tab := Dh.Tab
/-- Texts that were just laid in a row, one behind another. -/
theorem join_new (W : World) (xs : List (List UInt8)) (hn : xs.length ≤ 1000) (hl : xs.flatten.length ≤ 281474976710656) (cs : Array Value) (hc : cs = (xs.map fun l => Value.string ⟨l.toArray⟩).toArray) (n : Nat) (he : n = xs.length) (B : Nat) (hB : B = W.heap.size) :
    Calls Tryd.prog 53 #[.slice (some ⟨B, 0, none⟩) n n, .string { data := #[] }] (W.alloc (.cells cs 9)) fun e w' => e = .returned (.string ⟨xs.flatten.toArray⟩) ∧ Below (W.alloc (.cells cs 9)).heap.size (W.alloc (.cells cs 9)) w' := by
  subst hc he hB
  have hj : Lib.join ((xs.map fun l => ByteArray.mk l.toArray).map (·.data.toList)) (ByteArray.mk #[]).data.toList = xs.flatten := by
    rw [List.map_map]
    have e : ((fun x : ByteArray => x.data.toList) ∘ fun l : List UInt8 => ByteArray.mk l.toArray) = id := by
      funext l
      simp
    rw [e, List.map_id]
    cases xs with
    | nil => rfl
    | cons x r =>
      rw [Lib.join_cons]
      simp [Lib.joinTail]
  have h := Tryd.strings_Join W.heap.size 0 xs.length (xs.map fun l => ByteArray.mk l.toArray) { data := #[] } (W.alloc (.cells (xs.map fun l => Value.string ⟨l.toArray⟩).toArray 9)) (fun j x hx => by
    have := new_cells W (xs.map fun l => Value.string ⟨l.toArray⟩) 9 j (.string x) (by simp only [List.getElem?_map, Option.map_eq_some_iff] at hx ⊢; obtain ⟨a, h1, rfl⟩ := hx; exact ⟨a, h1, rfl⟩)
    rw [Nat.zero_add]
    rwa [show (⟨W.heap.size, 0, none⟩ : Addr).add j = ⟨W.heap.size, j, none⟩ by unfold Addr.add; split <;> simp_all] at this) (by simp) (by simp; omega) (by simp) (by rw [hj]; exact hl)
  rw [hj, List.length_map] at h
  exact h
set_option maxHeartbeats 800000 in
theorem chap_any (id : Int) (a b : List UInt8) (w : World) (hl : a.length + b.length ≤ 281474976709000) (T : Hid (Tab w)) : Calls Tryd.prog 49 #[.int .i64 id, .string ⟨a.toArray⟩, .string ⟨b.toArray⟩] w fun e w' => e = .returned (.string ⟨(Dig.md5 (Dig.parts id a b)).toArray⟩) ∧ Below w.heap.size w w' := by
  obtain ⟨y, hy⟩ : ∃ y : UInt8, y = UInt8.ofNat (id % 256).toNat := ⟨_, rfl⟩
  have hy2 : id % 256 = (y.toNat : Int) := by rw [hy]; simp; omega
  have hb1 := (Below.refl w.heap.size w).alloc (Nat.le_refl _) (.cells #[.int .u8 (y.toNat : Int)] 5)
  have hc := conv_new w [y] #[.int .u8 (y.toNat : Int)] rfl
  rw [List.length_singleton] at hc
  have J := join_new (w.alloc (.cells #[.int .u8 (y.toNat : Int)] 5)) [[y], a, b] (by simp) (by simp; omega) #[.string ⟨[y].toArray⟩, .string ⟨a.toArray⟩, .string ⟨b.toArray⟩] rfl 3 rfl (w.heap.size + 1) (by simp)
  have hb := hb1.alloc (by simp) (.cells #[.string ⟨[y].toArray⟩, .string ⟨a.toArray⟩, .string ⟨b.toArray⟩] 9)
  have HB := Lib.hid hb
  have e1 : [[y], a, b].flatten = Dig.parts id a b := by unfold Dig.parts; rw [← hy]; simp
  rw [e1] at J
  have SM := Lib.hid (Dh.sum_any _ (Dig.parts id a b) (by rw [Dig.parts_length]; omega) _ (Lib.hid (T.out.below hb)) (Lib.hid J))
  clear hb hb1 J e1 hy
  generalize Dig.md5 (Dig.parts id a b) = D at *
  go_enter Tryd.func49, Tryd.ntmps49
  go_wp2_with (go_at_call 52; refine SM.out.mono ?_; rintro e w2 ⟨rfl, hb2⟩; have HB2 := Lib.hid (bel2 HB.out hb2); clear hb2)
  go_ret
  exact ⟨rfl, HB2.out⟩
end Go.Proofs.YtaagfmnpeimakaaDoor.Dg
