/-
  ChachaNoughts, ChachaApart: all cases.
-/
import Derived.Test.YtcbnbhadanldpaaC5
namespace Go.Proofs.Ytcbnbhadanldpaa
open Go.RowKit

theorem chachaNoughts_any (key nonce : List Int) (x : Int) (hk : key.length = 32) (hn : nonce.length = 12) {W : World} : Calls Try.prog 7 #[.agg (key.map (Value.int .u8)).toArray, .agg (nonce.map (Value.int .u8)).toArray, .int .i64 x] W (fun e W' => e = .returned (.bool true) ∧ Upd (fun _ => False) W W') := by
  by_cases h1 : x < 0
  · exact lwNoughtsA key nonce x h1 (vs := [_, _, _]) ⟨da_arr hk, da_arr hn, da_int, trivial⟩
  · by_cases h2 : 400 < x
    · exact lwNoughtsB key nonce x h2 (vs := [_, _, _]) ⟨da_arr hk, da_arr hn, da_int, trivial⟩
    · obtain ⟨n, rfl⟩ := Int.eq_ofNat_of_zero_le (Int.not_lt.1 h1)
      exact lwNoughtsC key nonce n (by omega) hk hn (vs := [_, _, _]) ⟨da_arr hk, da_arr hn, da_int, trivial⟩
theorem chachaApart_any (key t : List Int) (n : Nat) (x : Int) (hk : key.length = 32) (ht : t.length = n) (hn : n ≤ 9223372036854775807) {W : World} {v : Value} (hv : DA (cxL W []) be0 (.o (.c (.rs 1 n (.i .u8 t)))) v) : Calls Try.prog 6 #[.agg (key.map (Value.int .u8)).toArray, v, .int .i64 x] W (fun e W' => e = .returned (.bool true) ∧ Upd (fun _ => False) W W') := by
  by_cases h1 : x < 0
  · exact lwApartA key n t x h1 hn (vs := [_, _, _]) ⟨da_arr hk, hv, da_int, trivial⟩
  · by_cases h2 : ((min n 2000 / 64 : Nat) : Int) < x
    · exact lwApartB key n t x (by omega) h2 hn (vs := [_, _, _]) ⟨da_arr hk, hv, da_int, trivial⟩
    · obtain ⟨m, rfl⟩ := Int.eq_ofNat_of_zero_le (Int.not_lt.1 h1)
      exact lwApartC key n t m (by omega) hn ht hk (vs := [_, _, _]) ⟨da_arr hk, hv, da_int, trivial⟩
end Go.Proofs.Ytcbnbhadanldpaa
