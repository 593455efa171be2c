/- The takers' contracts where the answer is known; lengths by name. -/
import Derived.Test.YtkkaedcgpbjbmaaTakeParts
namespace Go.Proofs.Ytkkaedcgpbjbmaa
open Go.RowKit

theorem take_votes_no {A : Option Addr} {cap n : Nat} {zs : List Int} {B : Nat} {i : Int} (hn : zs.length = n) (h : tkVotes zs i = none) (hl : n ≤ 9223372036854775806) (hi : i ≤ 9223372036854775807) (hz : ∀ z ∈ zs, 0 ≤ z ∧ z ≤ 255) (w : World) (hB : B ≤ w.heap.size) (hh : Has w B A (u8s zs)) :
    Calls Try.prog 32 #[.slice A n cap, .int .i64 i] w fun e w' => e = .returned (.tuple #[.slice none 0 0, .int .i64 0, .bool false]) ∧ Below w.heap.size w w' := by
  subst hn
  refine (take_votes A cap zs B i hl hi hz w hB hh).mono ?_
  rintro e w' ⟨hb, ⟨l, k, A2, c, h1, _⟩ | ⟨_, h2⟩⟩
  · rw [h] at h1; cases h1
  · exact ⟨h2, hb⟩
theorem take_votes_yes {A : Option Addr} {cap n : Nat} {zs : List Int} {B : Nat} {i : Int} (hn : zs.length = n) {l : List Vt} {k : Nat} (h : tkVotes zs i = some (l, (k : Int))) (hl : n ≤ 9223372036854775806) (hi : i ≤ 9223372036854775807) (hz : ∀ z ∈ zs, 0 ≤ z ∧ z ≤ 255) (w : World) (hB : B ≤ w.heap.size) (hh : Has w B A (u8s zs)) :
    Calls Try.prog 32 #[.slice A n cap, .int .i64 i] w fun e w' => ∃ A2 c, e = .returned (.tuple #[.slice A2 l.length c, .int .i64 k, .bool true]) ∧ k ≤ n ∧ l.length ≤ 256 ∧ w'.ownsRow w.heap.size 43 2 (.slice A2 l.length c) l.length (voteCells l) ∧ Below w.heap.size w w' := by
  subst hn
  refine (take_votes A cap zs B i hl hi hz w hB hh).mono ?_
  rintro e w' ⟨hb, ⟨l2, k2, A2, c, h1, h2, h3, h4, h5⟩ | ⟨h1, _⟩⟩
  · rw [h] at h1
    injection h1 with h1
    injection h1 with h1 h6
    subst h1
    have h7 : k = k2 := by omega
    subst h7
    exact ⟨A2, c, h4, h2, h3, h5, hb⟩
  · rw [h] at h1; cases h1
theorem take_batch_no {A : Option Addr} {cap n : Nat} {zs : List Int} {B : Nat} {i : Int} (hn : zs.length = n) (h : tkBatch zs i = none) (hl : n ≤ 9223372036854775806) (hi : i ≤ 9223372036854775807) (hz : ∀ z ∈ zs, 0 ≤ z ∧ z ≤ 255) (w : World) (hB : B ≤ w.heap.size) (hh : Has w B A (u8s zs)) :
    Calls Try.prog 28 #[.slice A n cap, .int .i64 i] w fun e w' => e = .returned (.tuple #[.slice none 0 0, .int .i64 0, .bool false]) ∧ Below w.heap.size w w' := by
  subst hn
  refine (take_batch A cap zs B i hl hi hz w hB hh).mono ?_
  rintro e w' ⟨hb, ⟨l, k, A2, c, h1, _⟩ | ⟨_, h2⟩⟩
  · rw [h] at h1; cases h1
  · exact ⟨h2, hb⟩
theorem take_batch_yes {A : Option Addr} {cap n : Nat} {zs : List Int} {B : Nat} {i : Int} (hn : zs.length = n) {l : List Rq} {k : Nat} (h : tkBatch zs i = some (l, (k : Int))) (hl : n ≤ 9223372036854775806) (hi : i ≤ 9223372036854775807) (hz : ∀ z ∈ zs, 0 ≤ z ∧ z ≤ 255) (w : World) (hB : B ≤ w.heap.size) (hh : Has w B A (u8s zs)) :
    Calls Try.prog 28 #[.slice A n cap, .int .i64 i] w fun e w' => ∃ A2 c, e = .returned (.tuple #[.slice A2 l.length c, .int .i64 k, .bool true]) ∧ k ≤ n ∧ l.length ≤ 256 ∧ w'.ownsRow w.heap.size 31 6 (.slice A2 l.length c) l.length (reqCells l) ∧ Below w.heap.size w w' := by
  subst hn
  refine (take_batch A cap zs B i hl hi hz w hB hh).mono ?_
  rintro e w' ⟨hb, ⟨l2, k2, A2, c, h1, h2, h3, h4, h5⟩ | ⟨h1, _⟩⟩
  · rw [h] at h1
    injection h1 with h1
    injection h1 with h1 h6
    subst h1
    have h7 : k = k2 := by omega
    subst h7
    exact ⟨A2, c, h4, h2, h3, h5, hb⟩
  · rw [h] at h1; cases h1
theorem take_certs_no {A : Option Addr} {cap n : Nat} {zs : List Int} {B : Nat} {i : Int} (hn : zs.length = n) (h : tkCerts zs i = none) (hl : n ≤ 9223372036854775806) (hi : i ≤ 9223372036854775807) (hz : ∀ z ∈ zs, 0 ≤ z ∧ z ≤ 255) (w : World) (hB : B ≤ w.heap.size) (hh : Has w B A (u8s zs)) :
    Calls Try.prog 23 #[.slice A n cap, .int .i64 i] w fun e w' => e = .returned (.tuple #[.slice none 0 0, .int .i64 0, .bool false]) ∧ Below w.heap.size w w' := by
  subst hn
  refine (take_certs A cap zs B i hl hi hz w hB hh).mono ?_
  rintro e w' ⟨hb, ⟨l, k, A2, c, h1, _⟩ | ⟨_, h2⟩⟩
  · rw [h] at h1; cases h1
  · exact ⟨h2, hb⟩
theorem take_certs_yes {A : Option Addr} {cap n : Nat} {zs : List Int} {B : Nat} {i : Int} (hn : zs.length = n) {l : List Ct} {k : Nat} (h : tkCerts zs i = some (l, (k : Int))) (hl : n ≤ 9223372036854775806) (hi : i ≤ 9223372036854775807) (hz : ∀ z ∈ zs, 0 ≤ z ∧ z ≤ 255) (w : World) (hB : B ≤ w.heap.size) (hh : Has w B A (u8s zs)) :
    Calls Try.prog 23 #[.slice A n cap, .int .i64 i] w fun e w' => ∃ A2 c, e = .returned (.tuple #[.slice A2 l.length c, .int .i64 k, .bool true]) ∧ k ≤ n ∧ l.length ≤ 256 ∧ OwnCerts w' w.heap.size (.slice A2 l.length c) l ∧ Below w.heap.size w w' := by
  subst hn
  refine (take_certs A cap zs B i hl hi hz w hB hh).mono ?_
  rintro e w' ⟨hb, ⟨l2, k2, A2, c, h1, h2, h3, h4, h5⟩ | ⟨h1, _⟩⟩
  · rw [h] at h1
    injection h1 with h1
    injection h1 with h1 h6
    subst h1
    have h7 : k = k2 := by omega
    subst h7
    exact ⟨A2, c, h4, h2, h3, h5, hb⟩
  · rw [h] at h1; cases h1
theorem take_parts_no {A : Option Addr} {cap n : Nat} {zs : List Int} {B : Nat} {i : Int} (hn : zs.length = n) (h : tkParts zs i = none) (hl : n ≤ 9223372036854775806) (hi : i ≤ 9223372036854775807) (hz : ∀ z ∈ zs, 0 ≤ z ∧ z ≤ 255) (w : World) (hB : B ≤ w.heap.size) (hh : Has w B A (u8s zs)) :
    Calls Try.prog 36 #[.slice A n cap, .int .i64 i] w fun e w' => e = .returned (.tuple #[.slice none 0 0, .int .i64 0, .bool false]) ∧ Below w.heap.size w w' := by
  subst hn
  refine (take_parts A cap zs B i hl hi hz w hB hh).mono ?_
  rintro e w' ⟨hb, ⟨l, k, A2, c, h1, _⟩ | ⟨_, h2⟩⟩
  · rw [h] at h1; cases h1
  · exact ⟨h2, hb⟩
theorem take_parts_yes {A : Option Addr} {cap n : Nat} {zs : List Int} {B : Nat} {i : Int} (hn : zs.length = n) {l : List Pt} {k : Nat} (h : tkParts zs i = some (l, (k : Int))) (hl : n ≤ 9223372036854775806) (hi : i ≤ 9223372036854775807) (hz : ∀ z ∈ zs, 0 ≤ z ∧ z ≤ 255) (w : World) (hB : B ≤ w.heap.size) (hh : Has w B A (u8s zs)) :
    Calls Try.prog 36 #[.slice A n cap, .int .i64 i] w fun e w' => ∃ A2 c, e = .returned (.tuple #[.slice A2 l.length c, .int .i64 k, .bool true]) ∧ k ≤ n ∧ l.length ≤ 256 ∧ OwnParts w' w.heap.size (.slice A2 l.length c) l ∧ Below w.heap.size w w' := by
  subst hn
  refine (take_parts A cap zs B i hl hi hz w hB hh).mono ?_
  rintro e w' ⟨hb, ⟨l2, k2, A2, c, h1, h2, h3, h4, h5⟩ | ⟨h1, _⟩⟩
  · rw [h] at h1
    injection h1 with h1
    injection h1 with h1 h6
    subst h1
    have h7 : k = k2 := by omega
    subst h7
    exact ⟨A2, c, h4, h2, h3, h5, hb⟩
  · rw [h] at h1; cases h1
theorem take_req_yes {A : Option Addr} {cap n : Nat} {zs : List Int} {B : Nat} {i : Int} (hn : zs.length = n) {r : Rq} {k : Nat} (h : tkReq zs i = some (r, (k : Int))) (hl : n ≤ 9223372036854775806) (hi : i ≤ 9223372036854775807) (hz : ∀ z ∈ zs, 0 ≤ z ∧ z ≤ 255) (w : World) (hB : B ≤ w.heap.size) (hh : Has w B A (u8s zs)) :
    Calls Try.prog 27 #[.slice A n cap, .int .i64 i] w fun e w' => e = .returned (.tuple #[.agg #[.int .i64 r.cl, .int .i64 r.tm, .int .i64 r.kd, .int .i64 r.ky, .int .i64 r.vl, .int .i64 r.sg], .int .i64 k, .bool true]) ∧ Below w.heap.size w w' := by
  subst hn
  refine (take_req A cap zs B i hl hi hz w hB hh).mono ?_
  rintro e w' ⟨hb, ⟨l2, k2, h1, h2, h3⟩ | ⟨h1, _⟩⟩
  · rw [h] at h1
    injection h1 with h1
    injection h1 with h1 h6
    subst h1
    have h7 : k = k2 := by omega
    subst h7
    exact ⟨h3, hb⟩
  · rw [h] at h1; cases h1
theorem take_req_no {A : Option Addr} {cap n : Nat} {zs : List Int} {B : Nat} {i : Int} (hn : zs.length = n) (h : tkReq zs i = none) (hl : n ≤ 9223372036854775806) (hi : i ≤ 9223372036854775807) (hz : ∀ z ∈ zs, 0 ≤ z ∧ z ≤ 255) (w : World) (hB : B ≤ w.heap.size) (hh : Has w B A (u8s zs)) :
    Calls Try.prog 27 #[.slice A n cap, .int .i64 i] w fun e w' => e = .returned (.tuple #[.agg #[.int .i64 0, .int .i64 0, .int .i64 0, .int .i64 0, .int .i64 0, .int .i64 0], .int .i64 0, .bool false]) ∧ Below w.heap.size w w' := by
  subst hn
  refine (take_req A cap zs B i hl hi hz w hB hh).mono ?_
  rintro e w' ⟨hb, ⟨l2, k2, h1, _⟩ | ⟨_, h2⟩⟩
  · rw [h] at h1; cases h1
  · exact ⟨h2, hb⟩
end Go.Proofs.Ytkkaedcgpbjbmaa
