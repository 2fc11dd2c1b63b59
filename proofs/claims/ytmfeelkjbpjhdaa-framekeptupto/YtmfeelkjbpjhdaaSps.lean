import Derived.Test.YtmfeelkjbpjhdaaSpl
namespace Go.Proofs.Ytmfeelkjbpjhdaa
open Go.RowKit
/-- the bytes of frames -/
def sz (bs : List (List UInt8)) : Nat := (bs.map fun b => 4 + b.length).sum
theorem sz_snoc (bs : List (List UInt8)) (b : List UInt8) : sz (bs ++ [b]) = sz bs + (4 + b.length) := by simp [sz]
theorem sz_cons (bs : List (List UInt8)) (b : List UInt8) : sz (b :: bs) = 4 + b.length + sz bs := by simp [sz]
theorem Rd.frames {h : Bool} {l : List UInt8} {met bs : List (List UInt8)} {h' : Bool} {r : List UInt8} {e : Int} (x : Rd h l met bs h' r e) : h = false → met = [] ∧ h' = false ∧ l.length = sz bs + r.length ∧ r = l.drop (sz bs) ∧ (e = 0 ∨ e = 102) ∧ ∀ b ∈ bs, b.length ≤ 32768 := by
  induction x with
  | bad l hs => intro h; cases h
  | few l hs hl => intro h; cases h
  | hello l met bs h r e hs hl _ ih => intro h; cases h
  | num l hl => intro _; exact ⟨rfl, rfl, by simp [sz], by simp [sz], .inl rfl, by simp⟩
  | big l hl hn => intro _; exact ⟨rfl, rfl, by simp [sz], by simp [sz], .inr rfl, by simp⟩
  | part l hl hn hp => intro _; exact ⟨rfl, rfl, by simp [sz], by simp [sz], .inl rfl, by simp⟩
  | body l met bs h r e hl hn hp _ ih =>
    intro _
    obtain ⟨h1, h2, h3, h4, h5, h6⟩ := ih rfl
    have hlen : ((l.drop 4).take (nm l)).length = nm l := by rw [List.length_take, List.length_drop]; omega
    rw [List.length_drop] at h3
    refine ⟨h1, h2, by rw [sz_cons, hlen]; omega, ?_, h5, ?_⟩
    · rw [sz_cons, hlen, h4, List.drop_drop]
    · intro b hb
      rcases List.mem_cons.1 hb with rfl | hb
      · omega
      · exact h6 b hb
/-- what is left when reading goes on at a place -/
theorem drop_get (l : List UInt8) (k i : Nat) : byt (l.drop k) i = byt l (k + i) := byt_drop l k i
end Go.Proofs.Ytmfeelkjbpjhdaa
