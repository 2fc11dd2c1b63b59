import Derived.Test.YtmfeelkjbpjhdaaWrap
import Derived.Test.YtmfeelkjbpjhdaaMeet
namespace Go.Proofs.Ytmfeelkjbpjhdaa
open Go.RowKit
/-- the number in the first four bytes -/
def nm (l : List UInt8) : Nat := (((byt l 0).toNat * 256 + (byt l 1).toNat) * 256 + (byt l 2).toNat) * 256 + (byt l 3).toNat
theorem nm_app (l b : List UInt8) (h : 4 ≤ l.length) : nm (l ++ b) = nm l := by
  have e : ∀ i, i < 4 → byt (l ++ b) i = byt l i := fun i hi => byt_left l b i (by omega)
  unfold nm
  rw [e 0 (by omega), e 1 (by omega), e 2 (by omega), e 3 (by omega)]
theorem nm_lt (l : List UInt8) : nm l < 4294967296 := by
  have h0 := UInt8.toNat_lt (byt l 0)
  have h1 := UInt8.toNat_lt (byt l 1)
  have h2 := UInt8.toNat_lt (byt l 2)
  have h3 := UInt8.toNat_lt (byt l 3)
  unfold nm; omega
theorem u8_of {n : Nat} {x : UInt8} (h : n % 256 = x.toNat) : UInt8.ofNat n = x := by
  apply UInt8.toNat_inj.1
  rw [UInt8.toNat_ofNat']; exact h
theorem be4_nm (l : List UInt8) (h : 4 ≤ l.length) : be4 (nm l) = l.take 4 := by
  have h0 := UInt8.toNat_lt (byt l 0)
  have h1 := UInt8.toNat_lt (byt l 1)
  have h2 := UInt8.toNat_lt (byt l 2)
  have h3 := UInt8.toNat_lt (byt l 3)
  have e0 : UInt8.ofNat (nm l / 16777216) = byt l 0 := u8_of (by unfold nm; omega)
  have e1 : UInt8.ofNat (nm l / 65536) = byt l 1 := u8_of (by unfold nm; omega)
  have e2 : UInt8.ofNat (nm l / 256) = byt l 2 := u8_of (by unfold nm; omega)
  have e3 : UInt8.ofNat (nm l) = byt l 3 := u8_of (by unfold nm; omega)
  have t1 := take_snoc l 0 (by omega)
  have t2 := take_snoc l 1 (by omega)
  have t3 := take_snoc l 2 (by omega)
  have t4 := take_snoc l 3 (by omega)
  rw [t4, t3, t2, t1]
  simp [be4, e0, e1, e2, e3]
theorem nm_be4 (s : Nat) (x : List UInt8) (h : s < 4294967296) : nm (be4 s ++ x) = s := by
  unfold nm
  rw [byt_left _ _ 0 (by simp [be4]), byt_left _ _ 1 (by simp [be4]), byt_left _ _ 2 (by simp [be4]), byt_left _ _ 3 (by simp [be4])]
  simp only [byt, be4, List.getD_cons_zero, List.getD_cons_succ, UInt8.toNat_ofNat']
  omega
/-- what a stream says: the handshake, the bodies; what waits then, and the fault -/
inductive Rd : Bool → List UInt8 → List (List UInt8) → List (List UInt8) → Bool → List UInt8 → Int → Prop
  | bad (l : List UInt8) : sok l 0 = false → Rd true l [] [] true l 100
  | few (l : List UInt8) : sok l 0 = true → l.length < 68 → Rd true l [] [] true l 0
  | hello (l : List UInt8) (met bs : List (List UInt8)) (h : Bool) (r : List UInt8) (e : Int) : sok l 0 = true → 68 ≤ l.length → Rd false (l.drop 68) met bs h r e → Rd true l (hel l :: met) bs h r e
  | num (l : List UInt8) : l.length < 4 → Rd false l [] [] false l 0
  | big (l : List UInt8) : 4 ≤ l.length → 32768 < nm l → Rd false l [] [] false l 102
  | part (l : List UInt8) : 4 ≤ l.length → nm l ≤ 32768 → l.length < 4 + nm l → Rd false l [] [] false l 0
  | body (l : List UInt8) (met bs : List (List UInt8)) (h : Bool) (r : List UInt8) (e : Int) : 4 ≤ l.length → nm l ≤ 32768 → 4 + nm l ≤ l.length → Rd false (l.drop (4 + nm l)) met bs h r e → Rd false l met ((l.drop 4).take (nm l) :: bs) h r e
theorem Rd.det {h : Bool} {l : List UInt8} {met bs : List (List UInt8)} {h' : Bool} {r : List UInt8} {e : Int} (x : Rd h l met bs h' r e) : ∀ {met2 bs2 : List (List UInt8)} {h2 : Bool} {r2 : List UInt8} {e2 : Int}, Rd h l met2 bs2 h2 r2 e2 → met2 = met ∧ bs2 = bs ∧ h2 = h' ∧ r2 = r ∧ e2 = e := by
  induction x with
  | bad l hs =>
    intro met2 bs2 h2 r2 e2 y
    cases y with
    | bad => exact ⟨rfl, rfl, rfl, rfl, rfl⟩
    | few _ h1 _ => rw [hs] at h1; cases h1
    | hello _ _ _ _ _ _ h1 _ _ => rw [hs] at h1; cases h1
  | few l hs hl =>
    intro met2 bs2 h2 r2 e2 y
    cases y with
    | bad _ h1 => rw [hs] at h1; cases h1
    | few => exact ⟨rfl, rfl, rfl, rfl, rfl⟩
    | hello _ _ _ _ _ _ _ h1 _ => omega
  | hello l met bs h r e hs hl _ ih =>
    intro met2 bs2 h2 r2 e2 y
    cases y with
    | bad _ h1 => rw [hs] at h1; cases h1
    | few _ _ h1 => omega
    | hello _ _ _ _ _ _ _ _ y =>
      obtain ⟨rfl, rfl, rfl, rfl, rfl⟩ := ih y
      exact ⟨rfl, rfl, rfl, rfl, rfl⟩
  | num l hl =>
    intro met2 bs2 h2 r2 e2 y
    cases y with
    | num => exact ⟨rfl, rfl, rfl, rfl, rfl⟩
    | big _ h1 _ => omega
    | part _ h1 _ _ => omega
    | body _ _ _ _ _ _ h1 _ _ _ => omega
  | big l hl hn =>
    intro met2 bs2 h2 r2 e2 y
    cases y with
    | num _ h1 => omega
    | big => exact ⟨rfl, rfl, rfl, rfl, rfl⟩
    | part _ _ h1 _ => omega
    | body _ _ _ _ _ _ _ h1 _ _ => omega
  | part l hl hn hp =>
    intro met2 bs2 h2 r2 e2 y
    cases y with
    | num _ h1 => omega
    | big _ _ h1 => omega
    | part => exact ⟨rfl, rfl, rfl, rfl, rfl⟩
    | body _ _ _ _ _ _ _ _ h1 _ => omega
  | body l met bs h r e hl hn hp _ ih =>
    intro met2 bs2 h2 r2 e2 y
    cases y with
    | num _ h1 => omega
    | big _ _ h1 => omega
    | part _ _ _ h1 => omega
    | body _ _ _ _ _ _ _ _ _ y =>
      obtain ⟨rfl, rfl, rfl, rfl, rfl⟩ := ih y
      exact ⟨rfl, rfl, rfl, rfl, rfl⟩
theorem sok_app (l b : List UInt8) (h : 20 ≤ l.length) : sok (l ++ b) 0 = sok l 0 := by
  rw [sok_all _ _ (by simp; omega), sok_all _ _ (by omega), Nat.sub_zero, List.take_append_of_le_length h]
/-- the cutting of a stream does not matter -/
theorem Rd.app {h : Bool} {l : List UInt8} {met bs : List (List UInt8)} {h' : Bool} {r : List UInt8} {e : Int} (x : Rd h l met bs h' r e) : e = 0 → ∀ {b : List UInt8} {met2 bs2 : List (List UInt8)} {h2 : Bool} {r2 : List UInt8} {e2 : Int}, Rd h' (r ++ b) met2 bs2 h2 r2 e2 → Rd h (l ++ b) (met ++ met2) (bs ++ bs2) h2 r2 e2 := by
  induction x with
  | bad l hs => intro he; cases he
  | few l hs hl => intro _ b met2 bs2 h2 r2 e2 y; exact y
  | hello l met bs h r e hs hl _ ih =>
    intro he b met2 bs2 h2 r2 e2 y
    have z := ih he y
    rw [← List.drop_append_of_le_length hl] at z
    have e1 : hel (l ++ b) = hel l := by
      unfold hel
      rw [List.drop_append_of_le_length (by omega), List.take_append_of_le_length (by simp; omega)]
    have := Rd.hello (l ++ b) _ _ _ _ _ (by rw [sok_app l b (by omega)]; exact hs) (by simp; omega) z
    rw [e1] at this
    exact this
  | num l hl => intro _ b met2 bs2 h2 r2 e2 y; exact y
  | big l hl hn => intro he; cases he
  | part l hl hn hp => intro _ b met2 bs2 h2 r2 e2 y; exact y
  | body l met bs h r e hl hn hp _ ih =>
    intro he b met2 bs2 h2 r2 e2 y
    have z := ih he y
    rw [← List.drop_append_of_le_length hp] at z
    have e1 := nm_app l b hl
    have e2 : ((l ++ b).drop 4).take (nm l) = (l.drop 4).take (nm l) := by
      rw [List.drop_append_of_le_length hl, List.take_append_of_le_length (by simp; omega)]
    have := Rd.body (l ++ b) _ _ _ _ _ (by simp; omega) (by rw [e1]; exact hn) (by rw [e1]; simp; omega) (by rw [e1]; exact z)
    rw [e1, e2] at this
    exact this
end Go.Proofs.Ytmfeelkjbpjhdaa
